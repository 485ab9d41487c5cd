/-
  A circuit without what is needless is itself without what is needless. Plain facts.
  Values of nodes, plain facts: an and is both of what it is of; what a run of nodes starts with.
  A circuit without what is needless: what it is, in each step, is what the circuit was. Plain facts.
-/
import Derived.Test.YtbdjdgamnnifjaaLess7
import Derived.Test.YtbdjdgamnnifjaaAigH
import Derived.Test.YtbdjdgamnnifjaaAigL
namespace Go.Proofs.Ytbdjdgamnnifjaa
set_option linter.unusedVariables false

/-- Ands of which none says nothing, and none is there twice. -/
def Norm (ys : List (Int × Int)) : Prop := ∀ i, i < ys.length → (2 ≤ (ys.getD i (0, 0)).1 ∧ (ys.getD i (0, 0)).1 < (ys.getD i (0, 0)).2 ∧ ¬ ((ys.getD i (0, 0)).1 + 1 = (ys.getD i (0, 0)).2 ∧ (ys.getD i (0, 0)).1 % 2 = 0)) ∧ ∀ k, k < i → ys.getD k (0, 0) ≠ ys.getD i (0, 0)

theorem where_not {ands : List (Int × Int)} {p : Int × Int} (h : ¬ whereA ands p < ands.length) : ∀ k, k < ands.length → ands.getD k (0, 0) ≠ p := fun k hk e => by
  refine h ?_
  unfold whereA
  refine List.findIdx_lt_length.2 ⟨ands.getD k (0, 0), ?_, by simpa using e⟩
  rw [List.getD, List.getElem?_eq_getElem hk]
  simp

theorem Norm.snoc {ys : List (Int × Int)} (h : Norm ys) {a b : Int} (h1 : 2 ≤ a) (h2 : a < b) (h3 : ¬ (a + 1 = b ∧ a % 2 = 0)) (h4 : ∀ k, k < ys.length → ys.getD k (0, 0) ≠ (a, b)) : Norm (ys ++ [(a, b)]) := fun i hi => by
  rw [List.length_append, List.length_cons, List.length_nil] at hi
  by_cases e : i < ys.length
  · rw [getD_snoc_lt _ _ _ _ e]
    refine ⟨(h i e).1, fun k hk => ?_⟩
    rw [getD_snoc_lt _ _ _ _ (by omega)]
    exact (h i e).2 k hk
  · obtain rfl : i = ys.length := by omega
    rw [getD_snoc_eq]
    refine ⟨⟨h1, h2, h3⟩, fun k hk => ?_⟩
    rw [getD_snoc_lt _ _ _ _ hk]
    exact h4 k hk

theorem andL_new {F : Nat} {ands : List (Int × Int)} {a b : Int} (h0 : 0 ≤ a) (hab : a ≤ b) (h : andL F ands a b < 0) : 2 ≤ a ∧ a < b ∧ ¬ (a + 1 = b ∧ a % 2 = 0) ∧ ¬ whereA ands (a, b) < ands.length := by
  unfold andL at h
  split at h
  · omega
  · rename_i h1
    split at h
    · omega
    · rename_i h2
      split at h
      · omega
      · rename_i h3
        exact ⟨by omega, by omega, fun e => h1 (.inr e), h3⟩

theorem fold_norm (F : Nat) (h1 : 1 ≤ F) (xs : List (Int × Int)) (hA : AndsOk F xs) (k : Nat) (hk : k ≤ xs.length) : Norm (foldS F xs k).2 := by
  induction k with
  | zero => exact fun i hi => by cases hi
  | succ k ih =>
    have hih := ih (by omega)
    have ho := foldS_ok F h1 xs hA k (by omega)
    obtain ⟨⟨x0, x1⟩, y0, y1⟩ := hA k (by omega)
    rw [show foldS F xs (k + 1) = foldStep F (foldS F xs k) (xs.getD k (0, 0)) from rfl]
    generalize foldS F xs k = st at *
    generalize xs.getD k (0, 0) = x at *
    have hp := ho.to.map x0 (by omega)
    have hq := ho.to.map y0 (by omega)
    unfold foldStep
    generalize mapL st.1 x.1 = p at *
    generalize mapL st.1 x.2 = q at *
    have hL : 0 ≤ lo2 p q ∧ lo2 p q ≤ hi2 p q := by rcases lo_hi p q with ⟨e1, e2, _⟩ | ⟨e1, e2, _⟩ <;> rw [e1, e2] <;> omega
    simp only
    split
    · rename_i hr
      obtain ⟨g1, g2, g3, g4⟩ := andL_new hL.1 hL.2 hr
      exact hih.snoc g1 g2 g3 (where_not g4)
    · exact hih

/-- What prunes keeps even, and in order. -/
theorem prune_idx (F : Nat) (h1 : 1 ≤ F) (xs : List (Int × Int)) (hA : AndsOk F xs) (S : Nat → Bool) (k : Nat) (hk : k ≤ xs.length) :
    (∀ n, n < F → (pruneS F xs S k).1.getD n 0 = 2 * (n : Int)) ∧
    (∀ j, j < (pruneS F xs S k).2.length → ∃ m, F ≤ m ∧ m < F + k ∧ S m = true ∧ (pruneS F xs S k).1.getD m 0 = 2 * ((F + j : Nat) : Int) ∧ (pruneS F xs S k).2.getD j (0, 0) = (mapL (pruneS F xs S k).1 (xs.getD (m - F) (0, 0)).1, mapL (pruneS F xs S k).1 (xs.getD (m - F) (0, 0)).2)) ∧
    (∀ m, F ≤ m → m < F + k → S m = true → ∃ j, j < (pruneS F xs S k).2.length ∧ (pruneS F xs S k).1.getD m 0 = 2 * ((F + j : Nat) : Int)) ∧
    (∀ m m', F ≤ m → m < m' → m' < F + k → S m = true → S m' = true → (pruneS F xs S k).1.getD m 0 < (pruneS F xs S k).1.getD m' 0) := by
  induction k with
  | zero =>
    refine ⟨fun n hn => start2_get F n hn, fun j hj => absurd hj (by simp [pruneS]), fun m g1 g2 => by omega, fun m m' g1 g2 g3 => by omega⟩
  | succ k ih =>
    obtain ⟨i0, i1, i2, i3⟩ := ih (by omega)
    have ho := pruneS_ok F h1 xs hA S k (by omega)
    have hx : ∀ m, F ≤ m → m < F + (k + 1) → ((xs.getD (m - F) (0, 0)).1 / 2).toNat < m ∧ ((xs.getD (m - F) (0, 0)).2 / 2).toNat < m := fun m g1 g2 => by
      have := hA (m - F) (by omega)
      omega
    rw [show pruneS F xs S (k + 1) = pruneStep F S k (pruneS F xs S k) (xs.getD k (0, 0)) from rfl]
    generalize pruneS F xs S k = st at *
    obtain ⟨ol, ov, oz⟩ := ho
    obtain ⟨to, hto⟩ : ∃ to, st.1 ++ [2 * ((F : Int) + (st.2.length : Int))] = to := ⟨_, rfl⟩
    have tlo : ∀ n, n < F + k → to.getD n 0 = st.1.getD n 0 := fun n hn => by rw [← hto]; exact getD_snoc_lt _ _ _ _ (by omega)
    have thi : to.getD (F + k) 0 = 2 * ((F + st.2.length : Nat) : Int) := by rw [← hto, ← ol, getD_snoc_eq]; omega
    have tmap : ∀ x : Int, (x / 2).toNat < F + k → mapL to x = mapL st.1 x := fun x h => by unfold mapL; rw [tlo _ h]
    have hst : pruneStep F S k st (xs.getD k (0, 0)) = if S (F + k) = true then (to, st.2 ++ [(mapL to (xs.getD k (0, 0)).1, mapL to (xs.getD k (0, 0)).2)]) else (to, st.2) := by unfold pruneStep; rw [hto]
    rw [hst]
    have kF : F + k - F = k := by omega
    split
    · rename_i hSk
      simp only
      refine ⟨fun n hn => (tlo n (by omega)).trans (i0 n hn), fun j hj => ?_, fun m g1 g2 g3 => ?_, fun m m' g1 g2 g3 g4 g5 => ?_⟩
      · rw [List.length_append, List.length_cons, List.length_nil] at hj
        by_cases e : j < st.2.length
        · obtain ⟨m, a1, a2, a3, a4, a5⟩ := i1 j e
          refine ⟨m, a1, by omega, a3, by rw [tlo m a2]; exact a4, ?_⟩
          have := hx m a1 (by omega)
          rw [getD_snoc_lt _ _ _ _ e, a5, tmap _ (by omega), tmap _ (by omega)]
        · obtain rfl : j = st.2.length := by omega
          refine ⟨F + k, by omega, by omega, hSk, thi, ?_⟩
          rw [getD_snoc_eq, kF]
      · rw [List.length_append, List.length_cons, List.length_nil]
        by_cases e : m < F + k
        · obtain ⟨j, b1, b2⟩ := i2 m g1 e g3
          exact ⟨j, by omega, by rw [tlo m e]; exact b2⟩
        · obtain rfl : m = F + k := by omega
          exact ⟨st.2.length, by omega, thi⟩
      · by_cases e : m' < F + k
        · rw [tlo m (by omega), tlo m' e]
          exact i3 m m' g1 g2 e g4 g5
        · obtain rfl : m' = F + k := by omega
          obtain ⟨j, b1, b2⟩ := i2 m g1 g2 g4
          rw [tlo m g2, thi, b2]
          omega
    · rename_i hSk
      simp only
      refine ⟨fun n hn => (tlo n (by omega)).trans (i0 n hn), fun j hj => ?_, fun m g1 g2 g3 => ?_, fun m m' g1 g2 g3 g4 g5 => ?_⟩
      · obtain ⟨m, a1, a2, a3, a4, a5⟩ := i1 j hj
        refine ⟨m, a1, by omega, a3, by rw [tlo m a2]; exact a4, ?_⟩
        have := hx m a1 (by omega)
        rw [a5, tmap _ (by omega), tmap _ (by omega)]
      · by_cases e : m < F + k
        · obtain ⟨j, b1, b2⟩ := i2 m g1 e g3
          exact ⟨j, b1, by rw [tlo m e]; exact b2⟩
        · obtain rfl : m = F + k := by omega
          exact absurd g3 hSk
      · by_cases e : m' < F + k
        · rw [tlo m (by omega), tlo m' e]
          exact i3 m m' g1 g2 e g4 g5
        · obtain rfl : m' = F + k := by omega
          exact absurd g5 hSk

/-- What a literal becomes, if its node becomes something even. -/
theorem mapL_even {to : List Int} {x : Int} (h : to.getD (x / 2).toNat 0 % 2 = 0) (h0 : 0 ≤ x) : mapL to x = to.getD (x / 2).toNat 0 + x % 2 := by
  unfold mapL opp
  by_cases e : x % 2 = 1
  · rw [if_pos e, if_pos h, e]
  · rw [if_neg e]
    omega

/-- The nodes that are there still: those ahead of the ands, and what is needed. -/
def Still (F N : Nat) (S : Nat → Bool) (n : Nat) : Prop := n < F ∨ (n < N ∧ S n = true)

structure Nu (F N : Nat) (S : Nat → Bool) (to : List Int) (len : Nat) : Prop where
  low : ∀ n, n < F → to.getD n 0 = 2 * (n : Int)
  even : ∀ n, Still F N S n → to.getD n 0 % 2 = 0
  mono : ∀ n n', Still F N S n → Still F N S n' → n < n' → to.getD n 0 < to.getD n' 0
  hi : ∀ n, F ≤ n → Still F N S n → 2 * (F : Int) ≤ to.getD n 0 ∧ to.getD n 0 < 2 * ((F + len : Nat) : Int)

theorem prune_nu (F : Nat) (h1 : 1 ≤ F) (xs : List (Int × Int)) (hA : AndsOk F xs) (S : Nat → Bool) : Nu F (F + xs.length) S (pruneS F xs S xs.length).1 (pruneS F xs S xs.length).2.length := by
  obtain ⟨i0, i1, i2, i3⟩ := prune_idx F h1 xs hA S xs.length (Nat.le_refl _)
  generalize pruneS F xs S xs.length = pt at *
  refine ⟨i0, fun n hn => ?_, fun n n' hn hn' hlt => ?_, fun n hF hn => ?_⟩
  · by_cases e : n < F
    · rw [i0 n e]; omega
    · rcases hn with h | ⟨g1, g2⟩
      · omega
      · obtain ⟨j, _, b⟩ := i2 n (by omega) g1 g2
        rw [b]; omega
  · by_cases e' : n' < F
    · rw [i0 n (by omega), i0 n' e']; omega
    · rcases hn' with h | ⟨g1, g2⟩
      · omega
      · by_cases e : n < F
        · obtain ⟨j, _, b⟩ := i2 n' (by omega) g1 g2
          rw [i0 n e, b]; omega
        · rcases hn with h | ⟨k1, k2⟩
          · omega
          · exact i3 n n' (by omega) hlt g1 k2 g2
  · rcases hn with h | ⟨g1, g2⟩
    · omega
    · obtain ⟨j, bj, b⟩ := i2 n hF g1 g2
      rw [b]; omega

theorem Nu.inj {F N len : Nat} {S : Nat → Bool} {to : List Int} (h : Nu F N S to len) {n n' : Nat} (hn : Still F N S n) (hn' : Still F N S n') (e : to.getD n 0 = to.getD n' 0) : n = n' := by
  rcases Nat.lt_trichotomy n n' with g | g | g
  · have := h.mono n n' hn hn' g; omega
  · exact g
  · have := h.mono n' n hn' hn g; omega

theorem Nu.map_inj {F N len : Nat} {S : Nat → Bool} {to : List Int} (h : Nu F N S to len) {x y : Int} (hx0 : 0 ≤ x) (hy0 : 0 ≤ y) (hx : Still F N S (x / 2).toNat) (hy : Still F N S (y / 2).toNat) (e : mapL to x = mapL to y) : x = y := by
  have ex := h.even _ hx
  have ey := h.even _ hy
  rw [mapL_even ex hx0, mapL_even ey hy0] at e
  have := h.inj hx hy (by omega)
  omega

/-- Kids of what is needed are there still. -/
theorem kids_still {F : Nat} {xs : List (Int × Int)} (hA : AndsOk F xs) {S : Nat → Bool} (hc : Closed F xs S) {m : Nat} (g1 : F ≤ m) (g2 : m < F + xs.length) (g3 : S m = true) : Still F (F + xs.length) S ((xs.getD (m - F) (0, 0)).1 / 2).toNat ∧ Still F (F + xs.length) S ((xs.getD (m - F) (0, 0)).2 / 2).toNat := by
  have h := hA (m - F) (by omega)
  obtain ⟨a, b⟩ := hc m g1 g2 g3
  unfold kidA at a
  unfold kidB at b
  exact ⟨.inr ⟨by omega, a⟩, .inr ⟨by omega, b⟩⟩

theorem prune_norm (F : Nat) (h1 : 1 ≤ F) (xs : List (Int × Int)) (hA : AndsOk F xs) (S : Nat → Bool) (hc : Closed F xs S) (hN : Norm xs) : Norm (pruneS F xs S xs.length).2 := by
  have hnu := prune_nu F h1 xs hA S
  obtain ⟨i0, i1, i2, i3⟩ := prune_idx F h1 xs hA S xs.length (Nat.le_refl _)
  generalize pruneS F xs S xs.length = pt at *
  intro i hi
  obtain ⟨m, a1, a2, a3, a4, a5⟩ := i1 i hi
  obtain ⟨sa, sb⟩ := kids_still hA hc a1 a2 a3
  have hn := hN (m - F) (by omega)
  have hr := hA (m - F) (by omega)
  have ea := hnu.even _ sa
  have eb := hnu.even _ sb
  have ma := mapL_even ea (show 0 ≤ (xs.getD (m - F) (0, 0)).1 by omega)
  have mb := mapL_even eb (show 0 ≤ (xs.getD (m - F) (0, 0)).2 by omega)
  rw [a5]
  refine ⟨?_, fun k hk => ?_⟩
  · simp only
    rw [ma, mb]
    generalize (xs.getD (m - F) (0, 0)).1 = a at *
    generalize (xs.getD (m - F) (0, 0)).2 = b at *
    obtain ⟨⟨n1, n2, n3⟩, _⟩ := hn
    have hpos : 2 ≤ pt.1.getD (a / 2).toNat 0 := by
      by_cases e : (a / 2).toNat < F
      · rw [hnu.low _ e]; omega
      · have := hnu.hi _ (by omega) sa; omega
    by_cases e : (a / 2).toNat = (b / 2).toNat
    · rw [← e]
      refine ⟨by omega, by omega, fun h => n3 ?_⟩
      omega
    · have hlt := hnu.mono _ _ sa sb (by omega)
      refine ⟨by omega, by omega, fun h => ?_⟩
      omega
  · obtain ⟨m', b1, b2, b3, b4, b5⟩ := i1 k (by omega)
    obtain ⟨ta, tb⟩ := kids_still hA hc b1 b2 b3
    have hr' := hA (m' - F) (by omega)
    rw [b5]
    intro e
    have e1 := hnu.map_inj (by omega) (by omega) ta sa (congrArg Prod.fst e)
    have e2 := hnu.map_inj (by omega) (by omega) tb sb (congrArg Prod.snd e)
    have e3 : xs.getD (m' - F) (0, 0) = xs.getD (m - F) (0, 0) := Prod.ext e1 e2
    rcases Nat.lt_trichotomy (m' - F) (m - F) with g | g | g
    · exact hn.2 _ g e3
    · have : m' = m := by omega
      subst this
      rw [a4] at b4
      omega
    · exact (hN (m' - F) (by omega)).2 _ g e3.symm

theorem mapL_start2 {n : Nat} {x : Int} (h0 : 0 ≤ x) (h1 : x < 2 * (n : Int)) : mapL (start2 n) x = x := by
  have e := start2_get n (x / 2).toNat (by omega)
  rw [mapL_even (by rw [e]; omega) h0, e]
  omega

theorem start2_succ (n : Nat) : start2 n ++ [2 * (n : Int)] = start2 (n + 1) := by
  unfold start2
  rw [List.range_succ, List.map_append]
  rfl

/-- What is so already is folded into itself. -/
theorem fold_same (F : Nat) (xs : List (Int × Int)) (hA : AndsOk F xs) (hN : Norm xs) (k : Nat) (hk : k ≤ xs.length) : foldS F xs k = (start2 (F + k), xs.take k) := by
  induction k with
  | zero => rfl
  | succ k ih =>
    rw [show foldS F xs (k + 1) = foldStep F (foldS F xs k) (xs.getD k (0, 0)) from rfl, ih (by omega)]
    have hr := hA k (by omega)
    obtain ⟨⟨n1, n2, n3⟩, n4⟩ := hN k (by omega)
    have hlen : (xs.take k).length = k := by simp; omega
    have hno : ¬ whereA (xs.take k) (xs.getD k (0, 0)) < (xs.take k).length := fun h => by
      unfold whereA at h
      have h3 := List.findIdx_getElem (xs := xs.take k) (p := fun q => decide (q = xs.getD k (0, 0))) (w := h)
      simp only [decide_eq_true_eq] at h3
      have hj := h
      rw [hlen] at hj
      refine n4 _ hj ?_
      rw [List.getElem_take] at h3
      rw [List.getD, List.getElem?_eq_getElem (by omega)]
      exact h3
    have htk : xs.take (k + 1) = xs.take k ++ [xs.getD k (0, 0)] := by
      rw [List.take_succ_eq_append_getElem (by omega)]
      simp [List.getD, show k < xs.length by omega]
    rw [htk]
    generalize xs.getD k (0, 0) = x at *
    obtain ⟨a, b⟩ := x
    have ea : mapL (start2 (F + k)) a = a := mapL_start2 (by have := hr.1; simp only at this; omega) (by have := hr.1; simp only at this; omega)
    have eb : mapL (start2 (F + k)) b = b := mapL_start2 (by have := hr.2; simp only at this; omega) (by have := hr.2; simp only at this; omega)
    simp only at n1 n2 n3 hr
    have el : lo2 a b = a := by unfold lo2; rw [if_neg (by omega)]
    have eh : hi2 a b = b := by unfold hi2; rw [if_neg (by omega)]
    have ean : andL F (xs.take k) a b = -1 := by
      unfold andL
      rw [if_neg (by omega), if_neg (by omega), if_neg hno]
    unfold foldStep
    simp only [ea, eb, el, eh, ean]
    rw [if_pos (by omega), hlen]
    have e9 : 2 * ((F : Int) + (k : Int)) = 2 * ((F + k : Nat) : Int) := by omega
    rw [e9, start2_succ]
    rfl

/-- Where all is needed nothing is left out. -/
theorem prune_same (F : Nat) (xs : List (Int × Int)) (hA : AndsOk F xs) (S : Nat → Bool) (hS : ∀ k, k < xs.length → S (F + k) = true) (k : Nat) (hk : k ≤ xs.length) : pruneS F xs S k = (start2 (F + k), xs.take k) := by
  induction k with
  | zero => rfl
  | succ k ih =>
    rw [show pruneS F xs S (k + 1) = pruneStep F S k (pruneS F xs S k) (xs.getD k (0, 0)) from rfl, ih (by omega)]
    have hr := hA k (by omega)
    have hlen : (xs.take k).length = k := by simp; omega
    have htk : xs.take (k + 1) = xs.take k ++ [xs.getD k (0, 0)] := by
      rw [List.take_succ_eq_append_getElem (by omega)]
      simp [List.getD, show k < xs.length by omega]
    rw [htk]
    generalize xs.getD k (0, 0) = x at *
    obtain ⟨a, b⟩ := x
    simp only at hr
    unfold pruneStep
    simp only [hlen]
    rw [if_pos (hS k (by omega))]
    have e9 : 2 * ((F : Int) + (k : Int)) = 2 * ((F + k : Nat) : Int) := by omega
    rw [e9, start2_succ, mapL_start2 (by omega) (by omega), mapL_start2 (by omega) (by omega)]
    rfl

end Go.Proofs.Ytbdjdgamnnifjaa

namespace Go.Proofs.Ytbdjdgamnnifjaa
open Go.RowKit Go.Deep
set_option linter.unusedVariables false

theorem valF_get (start : List Bool) (xs : List (Int × Int)) (k n j : Nat) (hk : k ≤ n) (hn : n ≤ xs.length) (hj : j < start.length + k) : (valF start xs n).getD j false = (valF start xs k).getD j false := by
  induction n with
  | zero => obtain rfl : k = 0 := by omega
            rfl
  | succ n ih =>
    by_cases e : k = n + 1
    · subst e; rfl
    · have h1 := ih (by omega) (by omega)
      rw [← h1, valF_succ start xs n (by omega)]
      have hl := valF_length start xs n (by omega)
      rw [List.getD, List.getElem?_append_left (by omega)]
      rfl

theorem litV_congr {us vs : List Bool} {x : Int} (h : us.getD (x / 2).toNat false = vs.getD (x / 2).toNat false) : litV us x = litV vs x := by
  unfold litV; rw [h]

/-- Each and is both of what it means, in all nodes. -/
theorem valF_and (start : List Bool) (xs : List (Int × Int)) (k : Nat) (h : k < xs.length) (h1 : ((xs.getD k (0, 0)).1 / 2).toNat < start.length + k) (h2 : ((xs.getD k (0, 0)).2 / 2).toNat < start.length + k) :
    (valF start xs xs.length).getD (start.length + k) false = (litV (valF start xs xs.length) (xs.getD k (0, 0)).1 && litV (valF start xs xs.length) (xs.getD k (0, 0)).2) := by
  have hl := valF_length start xs k (by omega)
  rw [valF_get start xs (k + 1) xs.length (start.length + k) (by omega) (Nat.le_refl _) (by omega), valF_succ start xs k h]
  rw [litV_congr (valF_get start xs k xs.length _ (by omega) (Nat.le_refl _) h1), litV_congr (valF_get start xs k xs.length _ (by omega) (Nat.le_refl _) h2)]
  rw [List.getD, List.getElem?_append_right (by omega), hl]
  simp

theorem valF_start (start : List Bool) (xs : List (Int × Int)) (j : Nat) (hj : j < start.length) : (valF start xs xs.length).getD j false = start.getD j false := by
  rw [valF_get start xs 0 xs.length j (by omega) (Nat.le_refl _) (by omega)]
  rfl

theorem start_zero (ins lats : List Bool) : (startOf ins lats).getD 0 false = false := rfl
theorem start_in (ins lats : List Bool) (i : Nat) (h : i < ins.length) : (startOf ins lats).getD (1 + i) false = ins.getD i false := by
  unfold startOf
  rw [List.getD, List.append_assoc, List.getElem?_append_right (by simp), List.getElem?_append_left (by simp; omega)]
  simp [List.getD]
theorem start_lat (ins lats : List Bool) (i : Nat) (h : i < lats.length) : (startOf ins lats).getD (1 + ins.length + i) false = lats.getD i false := by
  unfold startOf
  rw [List.getD, List.append_assoc, List.getElem?_append_right (by simp; omega), List.getElem?_append_right (by simp; omega)]
  simp [List.getD]
  congr 2
  omega
theorem start_length (ins lats : List Bool) : (startOf ins lats).length = 1 + ins.length + lats.length := by unfold startOf; simp; omega

end Go.Proofs.Ytbdjdgamnnifjaa

namespace Go.Proofs.Ytbdjdgamnnifjaa
set_option linter.unusedVariables false

theorem valF_snoc (start : List Bool) (xs : List (Int × Int)) (p : Int × Int) : valF start (xs ++ [p]) (xs ++ [p]).length = valF start xs xs.length ++ [litV (valF start xs xs.length) p.1 && litV (valF start xs xs.length) p.2] := by
  unfold valF
  rw [List.take_length, List.take_length, List.foldl_append]
  rfl

theorem litV_app (us : List Bool) (b : Bool) (x : Int) (h : (x / 2).toNat < us.length) : litV (us ++ [b]) x = litV us x := by
  refine litV_congr ?_
  rw [List.getD, List.getElem?_append_left h]
  rfl

theorem litV_opp (us : List Bool) (y : Int) (h : 0 ≤ y) : litV us (opp y) = !litV us y := by
  unfold litV opp
  split
  · rename_i e
    have h1 : (y + 1) / 2 = y / 2 := by omega
    have h2 : (y + 1) % 2 = 1 := by omega
    have h3 : ¬ y % 2 = 1 := by omega
    rw [h1]
    simp [h2, h3]
  · rename_i e
    have h1 : (y - 1) / 2 = y / 2 := by omega
    have h2 : ¬ (y - 1) % 2 = 1 := by omega
    have h3 : y % 2 = 1 := by omega
    rw [h1]
    simp [h2, h3]

theorem litV_mapL {us vs : List Bool} {to : List Int} {x : Int} (h0 : 0 ≤ to.getD (x / 2).toNat 0) (h : vs.getD (x / 2).toNat false = litV us (to.getD (x / 2).toNat 0)) : litV us (mapL to x) = litV vs x := by
  unfold mapL
  split
  · rename_i e
    rw [litV_opp _ _ h0, ← h]
    unfold litV
    simp [e]
  · rename_i e
    rw [← h]
    unfold litV
    rw [decide_eq_false e, Bool.bne_false]

theorem litV_even (us : List Bool) (n : Nat) : litV us (2 * (n : Int)) = us.getD n false := by
  unfold litV
  have h1 : (2 * (n : Int)) / 2 = (n : Int) := by omega
  rw [h1, Int.toNat_natCast]
  simp

theorem litV_zero (start : List Bool) (xs : List (Int × Int)) (hs : 1 ≤ start.length) (hs0 : start.getD 0 false = false) : litV (valF start xs xs.length) 0 = false := by
  have := litV_even (valF start xs xs.length) 0
  rw [show (2 * ((0 : Nat) : Int)) = 0 by omega] at this
  rw [this, valF_start start xs 0 (by omega)]
  exact hs0

/-- What both are is what stands for both. -/
theorem andL_val (start : List Bool) (F : Nat) (hF : start.length = F) (h1 : 1 ≤ F) (hs0 : start.getD 0 false = false) (ands : List (Int × Int)) (hA : AndsOk F ands) {a b : Int} (h0 : 0 ≤ a) (hab : a ≤ b) (hr : 0 ≤ andL F ands a b) :
    litV (valF start ands ands.length) (andL F ands a b) = (litV (valF start ands ands.length) a && litV (valF start ands ands.length) b) := by
  have hz := litV_zero start ands (by omega) hs0
  unfold andL at *
  split
  · rename_i h
    rw [hz]
    rcases h with rfl | ⟨e1, e2⟩
    · rw [hz]; rfl
    · have e3 : b = opp a := by unfold opp; rw [if_pos e2]; omega
      rw [e3, litV_opp _ _ h0]
      cases litV (valF start ands ands.length) a <;> rfl
  · rename_i h
    rw [if_neg h] at hr
    split
    · rename_i h2
      rcases h2 with rfl | rfl
      · have e3 : (1 : Int) = opp 0 := rfl
        rw [e3, litV_opp _ _ (by omega), hz]
        simp
      · simp
    · rename_i h2
      rw [if_neg h2] at hr
      split
      · rename_i hw
        have hw2 : ands.getD (whereA ands (a, b)) (0, 0) = (a, b) := by
          unfold whereA at *
          have h3 := List.findIdx_getElem (xs := ands) (p := fun q => decide (q = (a, b))) (w := hw)
          simp only [decide_eq_true_eq] at h3
          rw [List.getD, List.getElem?_eq_getElem hw]
          exact h3
        have hb := hA _ hw
        rw [hw2] at hb
        have hv := valF_and start ands (whereA ands (a, b)) hw (by rw [hw2]; omega) (by rw [hw2]; omega)
        rw [hw2] at hv
        have e5 : 2 * ((F : Int) + (whereA ands (a, b) : Int)) = 2 * ((start.length + whereA ands (a, b) : Nat) : Int) := by rw [hF]; omega
        rw [e5, litV_even, hv]
      · rename_i h3
        rw [if_neg h3] at hr
        omega

theorem and_lohi (us : List Bool) (p q : Int) : (litV us (lo2 p q) && litV us (hi2 p q)) = (litV us p && litV us q) := by
  rcases lo_hi p q with ⟨e1, e2, _⟩ | ⟨e1, e2, _⟩
  · rw [e1, e2]
  · rw [e1, e2, Bool.and_comm]

theorem fold_val (start : List Bool) (F : Nat) (hF : start.length = F) (h1 : 1 ≤ F) (hs0 : start.getD 0 false = false) (xs : List (Int × Int)) (hA : AndsOk F xs) (k : Nat) (hk : k ≤ xs.length) :
    ∀ i, i < F + k → (valF start xs k).getD i false = litV (valF start (foldS F xs k).2 (foldS F xs k).2.length) ((foldS F xs k).1.getD i 0) := by
  induction k with
  | zero =>
    intro i hi
    show (valF start xs 0).getD i false = litV (valF start [] 0) ((start2 F).getD i 0)
    rw [start2_get F i (by omega), litV_even]
    rfl
  | succ k ih =>
    have hih := ih (by omega)
    have ho := foldS_ok F h1 xs hA k (by omega)
    have hlv := valF_length start xs k (by omega)
    obtain ⟨⟨x0, x1⟩, y0, y1⟩ := hA k (by omega)
    rw [valF_succ start xs k (by omega)]
    rw [show foldS F xs (k + 1) = foldStep F (foldS F xs k) (xs.getD k (0, 0)) from rfl]
    generalize foldS F xs k = st at *
    generalize xs.getD k (0, 0) = x at *
    generalize valF start xs k = vs at *
    have hul := valF_length start st.2 st.2.length (Nat.le_refl _)
    have hp := ho.to.map x0 (by omega)
    have hq := ho.to.map y0 (by omega)
    have ep : litV (valF start st.2 st.2.length) (mapL st.1 x.1) = litV vs x.1 := litV_mapL (ho.to.val _ (by omega)).1 (hih _ (by omega))
    have eq : litV (valF start st.2 st.2.length) (mapL st.1 x.2) = litV vs x.2 := litV_mapL (ho.to.val _ (by omega)).1 (hih _ (by omega))
    unfold foldStep
    generalize mapL st.1 x.1 = p at *
    generalize mapL st.1 x.2 = q at *
    have hlh := lo_hi p q
    have hL : 0 ≤ lo2 p q ∧ lo2 p q ≤ hi2 p q := by rcases hlh with ⟨e1, e2, _⟩ | ⟨e1, e2, _⟩ <;> rw [e1, e2] <;> omega
    simp only
    intro i hi
    have hlen := ho.to.len
    split
    · rename_i hr
      simp only
      rw [valF_snoc]
      by_cases e : i < F + k
      · rw [getD_snoc_lt _ _ _ _ (by omega), getD_snoc_lt _ _ _ _ (by omega), hih i e]
        have hv := ho.to.val i e
        rw [litV_app _ _ _ (by omega)]
      · obtain rfl : i = F + k := by omega
        have e1 : st.1.length = F + k := hlen
        have e2 : vs.length = F + k := by omega
        rw [← e2, getD_snoc_eq]
        rw [e2, ← e1, getD_snoc_eq]
        have e3 : 2 * ((F : Int) + (st.2.length : Int)) = 2 * (((valF start st.2 st.2.length).length : Nat) : Int) := by rw [hul, hF]; omega
        rw [e3, litV_even, getD_snoc_eq]
        simp only
        rw [and_lohi, ep, eq]
    · rename_i hr
      simp only
      by_cases e : i < F + k
      · rw [getD_snoc_lt _ _ _ _ (by omega), getD_snoc_lt _ _ _ _ (by omega), hih i e]
      · obtain rfl : i = F + k := by omega
        have e1 : st.1.length = F + k := hlen
        have e2 : vs.length = F + k := by omega
        rw [← e2, getD_snoc_eq]
        rw [e2, ← e1, getD_snoc_eq]
        rw [andL_val start F hF h1 hs0 st.2 ho.ands hL.1 hL.2 (by omega), and_lohi, ep, eq]

theorem prune_val (start : List Bool) (F : Nat) (hF : start.length = F) (h1 : 1 ≤ F) (xs : List (Int × Int)) (hA : AndsOk F xs) (S : Nat → Bool) (hc : Closed F xs S) (k : Nat) (hk : k ≤ xs.length) :
    ∀ i, i < F + k → (i < F ∨ S i = true) → (0 ≤ (pruneS F xs S k).1.getD i 0 ∧ (pruneS F xs S k).1.getD i 0 < 2 * ((F + (pruneS F xs S k).2.length : Nat) : Int)) ∧ (valF start xs k).getD i false = litV (valF start (pruneS F xs S k).2 (pruneS F xs S k).2.length) ((pruneS F xs S k).1.getD i 0) := by
  induction k with
  | zero =>
    intro i hi _
    show (0 ≤ (start2 F).getD i 0 ∧ (start2 F).getD i 0 < 2 * ((F + 0 : Nat) : Int)) ∧ (valF start xs 0).getD i false = litV (valF start [] 0) ((start2 F).getD i 0)
    rw [start2_get F i (by omega), litV_even]
    exact ⟨by omega, rfl⟩
  | succ k ih =>
    have hih := ih (by omega)
    have ho := pruneS_ok F h1 xs hA S k (by omega)
    have hlv := valF_length start xs k (by omega)
    obtain ⟨⟨x0, x1⟩, y0, y1⟩ := hA k (by omega)
    have hcl := hc (F + k) (by omega) (by omega)
    have kA : kidA F xs (F + k) = ((xs.getD k (0, 0)).1 / 2).toNat := by unfold kidA; rw [show F + k - F = k by omega]
    have kB : kidB F xs (F + k) = ((xs.getD k (0, 0)).2 / 2).toNat := by unfold kidB; rw [show F + k - F = k by omega]
    rw [kA, kB] at hcl
    rw [valF_succ start xs k (by omega)]
    rw [show pruneS F xs S (k + 1) = pruneStep F S k (pruneS F xs S k) (xs.getD k (0, 0)) from rfl]
    generalize pruneS F xs S k = st at *
    generalize xs.getD k (0, 0) = x at *
    generalize valF start xs k = vs at *
    have hul := valF_length start st.2 st.2.length (Nat.le_refl _)
    obtain ⟨ol, ov, oz⟩ := ho
    intro i hi hS
    have e1 : st.1.length = F + k := ol
    have e2 : vs.length = F + k := by omega
    unfold pruneStep
    simp only
    split
    · rename_i hSk
      simp only
      obtain ⟨sa, sb⟩ := hcl hSk
      have ga := hih _ (by omega) (.inr sa)
      have gb := hih _ (by omega) (.inr sb)
      have ta : (st.1 ++ [2 * ((F : Int) + (st.2.length : Int))]).getD (x.1 / 2).toNat 0 = st.1.getD (x.1 / 2).toNat 0 := getD_snoc_lt _ _ _ _ (by omega)
      have tb : (st.1 ++ [2 * ((F : Int) + (st.2.length : Int))]).getD (x.2 / 2).toNat 0 = st.1.getD (x.2 / 2).toNat 0 := getD_snoc_lt _ _ _ _ (by omega)
      have ep : litV (valF start st.2 st.2.length) (mapL (st.1 ++ [2 * ((F : Int) + (st.2.length : Int))]) x.1) = litV vs x.1 := litV_mapL (by rw [ta]; exact ga.1.1) (by rw [ta]; exact ga.2)
      have eq : litV (valF start st.2 st.2.length) (mapL (st.1 ++ [2 * ((F : Int) + (st.2.length : Int))]) x.2) = litV vs x.2 := litV_mapL (by rw [tb]; exact gb.1.1) (by rw [tb]; exact gb.2)
      rw [valF_snoc, List.length_append]
      simp only [List.length_cons, List.length_nil]
      by_cases e : i < F + k
      · obtain ⟨hr, hv⟩ := hih i e hS
        rw [getD_snoc_lt _ _ _ _ (by omega), getD_snoc_lt _ _ _ _ (by omega), hv]
        exact ⟨by omega, by rw [litV_app _ _ _ (by omega)]⟩
      · obtain rfl : i = F + k := by omega
        refine ⟨?_, ?_⟩
        · rw [← e1, getD_snoc_eq]; omega
        · rw [← e2, getD_snoc_eq]
          rw [e2, ← e1, getD_snoc_eq]
          have e3 : 2 * ((F : Int) + (st.2.length : Int)) = 2 * (((valF start st.2 st.2.length).length : Nat) : Int) := by rw [hul, hF]; omega
          rw [e3, litV_even, getD_snoc_eq, ← e3, ep, eq]
    · rename_i hSk
      simp only
      by_cases e : i < F + k
      · obtain ⟨hr, hv⟩ := hih i e hS
        rw [getD_snoc_lt _ _ _ _ (by omega), getD_snoc_lt _ _ _ _ (by omega), hv]
        exact ⟨hr, rfl⟩
      · obtain rfl : i = F + k := by omega
        rcases hS with h | h
        · omega
        · exact absurd h hSk

theorem mapL_range {to : List Int} {x : Int} {m : Nat} (h : 0 ≤ to.getD (x / 2).toNat 0 ∧ to.getD (x / 2).toNat 0 < 2 * (m : Int)) : 0 ≤ mapL to x ∧ mapL to x < 2 * (m : Int) := by
  unfold mapL opp
  split
  · split <;> omega
  · exact h

theorem prune_ands (start : List Bool) (F : Nat) (hF : start.length = F) (h1 : 1 ≤ F) (xs : List (Int × Int)) (hA : AndsOk F xs) (S : Nat → Bool) (hc : Closed F xs S) (k : Nat) (hk : k ≤ xs.length) : AndsOk F (pruneS F xs S k).2 := by
  induction k with
  | zero => exact fun i hi => by cases hi
  | succ k ih =>
    have hih := ih (by omega)
    have hv := prune_val start F hF h1 xs hA S hc k (by omega)
    have ho := pruneS_ok F h1 xs hA S k (by omega)
    obtain ⟨⟨x0, x1⟩, y0, y1⟩ := hA k (by omega)
    have hcl := hc (F + k) (by omega) (by omega)
    have kA : kidA F xs (F + k) = ((xs.getD k (0, 0)).1 / 2).toNat := by unfold kidA; rw [show F + k - F = k by omega]
    have kB : kidB F xs (F + k) = ((xs.getD k (0, 0)).2 / 2).toNat := by unfold kidB; rw [show F + k - F = k by omega]
    rw [kA, kB] at hcl
    rw [show pruneS F xs S (k + 1) = pruneStep F S k (pruneS F xs S k) (xs.getD k (0, 0)) from rfl]
    generalize pruneS F xs S k = st at *
    generalize xs.getD k (0, 0) = x at *
    obtain ⟨ol, ov, oz⟩ := ho
    unfold pruneStep
    simp only
    split
    · rename_i hSk
      obtain ⟨sa, sb⟩ := hcl hSk
      have ga := (hv _ (by omega) (.inr sa)).1
      have gb := (hv _ (by omega) (.inr sb)).1
      have ta : (st.1 ++ [2 * ((F : Int) + (st.2.length : Int))]).getD (x.1 / 2).toNat 0 = st.1.getD (x.1 / 2).toNat 0 := getD_snoc_lt _ _ _ _ (by omega)
      have tb : (st.1 ++ [2 * ((F : Int) + (st.2.length : Int))]).getD (x.2 / 2).toNat 0 = st.1.getD (x.2 / 2).toNat 0 := getD_snoc_lt _ _ _ _ (by omega)
      have ra := mapL_range (to := st.1 ++ [2 * ((F : Int) + (st.2.length : Int))]) (x := x.1) (m := F + st.2.length) (by rw [ta]; exact ga)
      have rb := mapL_range (to := st.1 ++ [2 * ((F : Int) + (st.2.length : Int))]) (x := x.2) (m := F + st.2.length) (by rw [tb]; exact gb)
      exact hih.snoc (by omega) (by omega)
    · exact hih

/-- A circuit whose parts mean what stands ahead is ok. -/
theorem ok_of {inp : Int} {ls : List (Int × Bool)} {xs : List (Int × Int)} {bs : List Int} {F : Nat} (h0 : 0 ≤ inp) (h8 : inp ≤ 8) (hl8 : ls.length ≤ 8) (hx40 : xs.length ≤ 40) (hb4 : bs.length ≤ 4) (hF : (F : Int) = 1 + inp + ls.length) (hA : AndsOk F xs) (hL : ∀ p ∈ ls, 0 ≤ p.1 ∧ p.1 < 2 * ((F : Int) + xs.length)) (hB : ∀ x ∈ bs, 0 ≤ x ∧ x < 2 * ((F : Int) + xs.length)) : okC inp ls xs bs = true ∧ (∀ p ∈ ls, I64 p.1) ∧ (∀ p ∈ xs, I64 p.1 ∧ I64 p.2) ∧ (∀ x ∈ bs, I64 x) := by
  have i1 : ∀ p ∈ ls, I64 p.1 := fun p hp => by have := hL p hp; unfold I64; omega
  have i2 : ∀ p ∈ xs, I64 p.1 ∧ I64 p.2 := fun p hp => by
    obtain ⟨i, hi, rfl⟩ := List.mem_iff_getElem.1 hp
    have h := hA i hi
    have e : xs.getD i (0, 0) = xs[i] := by simp [List.getD, hi]
    rw [e] at h
    unfold I64
    omega
  have i3 : ∀ x ∈ bs, I64 x := fun p hp => by have := hB p hp; unfold I64; omega
  refine ⟨?_, i1, i2, i3⟩
  rw [okC_eq i1 i2 i3]
  unfold okS okF sizesB
  simp only [Bool.and_eq_true, decide_eq_true_eq, List.all_eq_true, List.mem_map]
  refine ⟨⟨h0, h8, hl8, hx40, hb4⟩, fun p hp => ?_, ?_, fun x hx => ?_⟩
  · simp only [nodesFrom, List.mem_map, List.mem_range] at hp
    obtain ⟨i, hi, rfl⟩ := hp
    have h := hA i hi
    unfold pairB aheadB
    simp only [Bool.and_eq_true, decide_eq_true_eq]
    omega
  · rintro x ⟨p, hp, rfl⟩
    have := hL p hp
    unfold aheadB
    simp only [Bool.and_eq_true, decide_eq_true_eq]
    omega
  · have := hB x hx
    unfold aheadB
    simp only [Bool.and_eq_true, decide_eq_true_eq]
    omega

/-- What is left does what the circuit did. -/
theorem less_sem {inp : Int} {ls : List (Int × Bool)} {xs : List (Int × Int)} {bs : List Int} {i' : Int} {ls' : List (Int × Bool)} {xs' : List (Int × Int)} {bs' : List Int} (o : okC inp ls xs bs = true) (hl64 : ∀ p ∈ ls, I64 p.1) (h64 : ∀ p ∈ xs, I64 p.1 ∧ I64 p.2) (hb64 : ∀ x ∈ bs, I64 x) (h : IsLess inp ls xs bs i' ls' xs' bs') :
    i' = inp ∧ okC inp ls' xs' bs' = true ∧ ((∀ p ∈ ls', I64 p.1) ∧ (∀ p ∈ xs', I64 p.1 ∧ I64 p.2) ∧ (∀ x ∈ bs', I64 x)) ∧ ls'.length = ls.length ∧ bs'.length = bs.length ∧ xs'.length ≤ xs.length ∧ ls'.map Prod.snd = ls.map Prod.snd ∧
    ∀ lats ins, lats.length = ls.length → (ins.length : Int) = inp → nextOf inp ls' xs' bs' lats ins = nextOf inp ls xs bs lats ins ∧ badOf inp ls' xs' bs' lats ins = badOf inp ls xs bs lats ins := by
  obtain ⟨h0, h8, hl8, hx40, hb4⟩ := okC_sizes o
  obtain ⟨F, hF⟩ : ∃ F : Nat, (F : Int) = 1 + inp + ls.length := ⟨(1 + inp + ls.length).toNat, by omega⟩
  obtain ⟨hA, hL, hB⟩ := okS_ands o hl64 h64 hb64 hF
  obtain ⟨e1, st, hst, S, hS, e2, e3, e4⟩ := h.2 o F hF
  have h1 : 1 ≤ F := by omega
  have hfo := foldS_ok F h1 xs hA xs.length (Nat.le_refl _)
  rw [← hst] at hfo
  have hfv := fun start hs hs0 => fold_val start F hs h1 hs0 xs hA xs.length (Nat.le_refl _)
  rw [← hst] at hfv
  have hpo := pruneS_ok F h1 st.2 hfo.ands S st.2.length (Nat.le_refl _)
  have hpv := fun start hs => prune_val start F hs h1 st.2 hfo.ands S hS.cl st.2.length (Nat.le_refl _)
  have hpa := prune_ands (List.replicate F false) F (by simp) h1 st.2 hfo.ands S hS.cl st.2.length (Nat.le_refl _)
  clear hst
  obtain ⟨pt, hpt⟩ : ∃ pt, pruneS F st.2 S st.2.length = pt := ⟨_, rfl⟩
  rw [hpt] at e2 e3 e4 hpo hpa hpv
  have hle := hfo.le
  have hle2 := hpo.2.2
  have hll : ls'.length = ls.length := by rw [e2]; simp [mapLat]
  have hbl : bs'.length = bs.length := by rw [e4]; simp [mapBad]
  have root : ∀ x, x ∈ ls.map Prod.fst ∨ x ∈ bs → 0 ≤ x ∧ x < 2 * ((F + xs.length : Nat) : Int) ∧ S (mapL st.1 x / 2).toNat = true := fun x hx => by
    rcases hx with hx | hx
    · obtain ⟨p, hp, rfl⟩ := List.mem_map.1 hx
      have := hL p hp
      refine ⟨by omega, by omega, hS.has _ ?_⟩
      unfold rootsOf nodesL
      refine List.mem_append.2 (.inl (List.mem_map.2 ⟨mapL st.1 p.1, List.mem_map.2 ⟨(mapL st.1 p.1, p.2), List.mem_map.2 ⟨p, hp, rfl⟩, rfl⟩, rfl⟩))
    · have := hB x hx
      refine ⟨by omega, by omega, hS.has _ ?_⟩
      unfold rootsOf nodesL
      exact List.mem_append.2 (.inr (List.mem_map.2 ⟨mapL st.1 x, List.mem_map.2 ⟨x, hx, rfl⟩, rfl⟩))
  have rng : ∀ x, x ∈ ls.map Prod.fst ∨ x ∈ bs → 0 ≤ mapL pt.1 (mapL st.1 x) ∧ mapL pt.1 (mapL st.1 x) < 2 * ((F + pt.2.length : Nat) : Int) := fun x hx => by
    obtain ⟨g0, g1, g2⟩ := root x hx
    have hm := hfo.to.map g0 (by omega)
    exact mapL_range ((hpv (List.replicate F false) (by simp) _ (by omega) (.inr g2)).1)
  have val : ∀ start : List Bool, start.length = F → start.getD 0 false = false → ∀ x, x ∈ ls.map Prod.fst ∨ x ∈ bs → litV (valF start pt.2 pt.2.length) (mapL pt.1 (mapL st.1 x)) = litV (valF start xs xs.length) x := fun start hs hs0 x hx => by
    obtain ⟨g0, g1, g2⟩ := root x hx
    have hm := hfo.to.map g0 (by omega)
    have v2 := hpv start hs _ (by omega) (.inr g2)
    have v1 := hfv start hs hs0 (x / 2).toNat (by omega)
    rw [litV_mapL v2.1.1 v2.2]
    exact litV_mapL (hfo.to.val _ (by omega)).1 v1
  have hL' : ∀ p ∈ ls', 0 ≤ p.1 ∧ p.1 < 2 * ((F : Int) + xs'.length) := fun p hp => by
    rw [e2] at hp
    obtain ⟨q, hq, rfl⟩ := List.mem_map.1 hp
    obtain ⟨r, hr, rfl⟩ := List.mem_map.1 hq
    have := rng r.1 (.inl (List.mem_map.2 ⟨r, hr, rfl⟩))
    rw [e3]
    simp only
    omega
  have hB' : ∀ x ∈ bs', 0 ≤ x ∧ x < 2 * ((F : Int) + xs'.length) := fun x hx => by
    rw [e4] at hx
    obtain ⟨q, hq, rfl⟩ := List.mem_map.1 hx
    obtain ⟨r, hr, rfl⟩ := List.mem_map.1 hq
    have := rng r (.inr hr)
    rw [e3]
    omega
  have hA' : AndsOk F xs' := by rw [e3]; exact hpa
  have hx' : xs'.length ≤ xs.length := by rw [e3]; omega
  obtain ⟨ok', j1, j2, j3⟩ := ok_of h0 h8 (by omega) (by omega) (by omega) (by omega) hA' hL' hB'
  refine ⟨e1, ok', ⟨j1, j2, j3⟩, hll, hbl, hx', ?_, fun lats ins hla hin => ?_⟩
  · rw [e2]
    simp [mapLat, Function.comp_def]
  · have f1 : fitsB inp ls xs bs lats ins = true := fitsB_iff.2 ⟨o, hla, hin⟩
    have f2 : fitsB inp ls' xs' bs' lats ins = true := fitsB_iff.2 ⟨ok', by omega, hin⟩
    have hs : (startOf ins lats).length = F := by rw [start_length]; omega
    unfold nextOf badOf
    rw [if_pos f1, if_pos f2, if_pos f1, if_pos f2]
    refine ⟨?_, ?_⟩
    · rw [e2, e3]
      simp only [mapLat, List.map_map]
      refine List.map_congr_left fun p hp => ?_
      exact val _ hs (start_zero ins lats) p.1 (.inl (List.mem_map.2 ⟨p, hp, rfl⟩))
    · rw [e3, e4]
      simp only [mapBad, List.map_map]
      refine List.map_congr_left fun x hx => ?_
      exact val _ hs (start_zero ins lats) x (.inr hx)

end Go.Proofs.Ytbdjdgamnnifjaa
