/-
  A circuit without what is needless: the sweep from many roots gives the least set.
-/
import Derived.Test.YtbdjdgamnnifjaaLess5
namespace Go.Proofs.Ytbdjdgamnnifjaa
set_option linter.unusedVariables false

theorem sweep_invR {F : Nat} {xs : List (Int × Int)} (S0 : Nat → Bool) (ha : Ahead F xs) (j : Nat) (hj : j ≤ xs.length) :
    (∀ k, S0 k = true → sweepF F xs S0 j k = true) ∧
    (∀ m, F + (xs.length - j) ≤ m → m < F + xs.length → sweepF F xs S0 j m = true → sweepF F xs S0 j (kidA F xs m) = true ∧ sweepF F xs S0 j (kidB F xs m) = true) ∧
    (∀ T : Nat → Bool, (∀ k, S0 k = true → T k = true) → Closed F xs T → ∀ k, sweepF F xs S0 j k = true → T k = true) := by
  induction j with
  | zero => exact ⟨fun k h => h, fun m h1 h2 => by omega, fun T hT _ k hk => hT k hk⟩
  | succ j ih =>
    obtain ⟨i1, i2, i3⟩ := ih (by omega)
    rw [show sweepF F xs S0 (j + 1) = sweep1 F xs (sweepF F xs S0 j) (F + (xs.length - 1 - j)) from rfl]
    generalize sweepF F xs S0 j = S at *
    have hm1 : F ≤ F + (xs.length - 1 - j) := by omega
    have hm2 : F + (xs.length - 1 - j) < F + xs.length := by omega
    refine ⟨fun k hk => sweep1_sub (i1 k hk), fun m h1 h2 h3 => ?_, fun T hT hc k hk => ?_⟩
    · rw [sweep1_hi ha hm1 hm2 (by omega)] at h3
      by_cases e : m = F + (xs.length - 1 - j)
      · subst e
        unfold sweep1
        rw [if_pos h3]
        exact ⟨setS_sub (setS_same _ _), setS_same _ _⟩
      · have := i2 m (by omega) h2 h3
        exact ⟨sweep1_sub this.1, sweep1_sub this.2⟩
    · unfold sweep1 at hk
      split at hk
      · rename_i hS
        have hk2 := hc _ hm1 hm2 (i3 T hT hc _ hS)
        rcases setS_of hk with rfl | h
        · exact hk2.2
        · rcases setS_of h with rfl | h
          · exact hk2.1
          · exact i3 T hT hc k h
      · exact i3 T hT hc k hk

/-- So many roots marked. -/
def setAll : List Nat → (Nat → Bool)
  | R => R.foldl setS (fun _ => false)

theorem setAll_snoc (R : List Nat) (n : Nat) : setAll (R ++ [n]) = setS (setAll R) n := by simp [setAll]

theorem foldl_setS (R : List Nat) (S : Nat → Bool) (k : Nat) : R.foldl setS S k = true ↔ k ∈ R ∨ S k = true := by
  induction R generalizing S with
  | nil => simp
  | cons a l ih =>
    rw [List.foldl_cons, ih]
    unfold setS
    by_cases e : k = a
    · subst e; simp
    · simp [e]

theorem setAll_iff (R : List Nat) (k : Nat) : setAll R k = true ↔ k ∈ R := by unfold setAll; rw [foldl_setS]; simp

theorem sweep_leastR {F : Nat} {xs : List (Int × Int)} (R : List Nat) (ha : Ahead F xs) : LeastR F xs R (sweepF F xs (setAll R) xs.length) := by
  obtain ⟨h1, h2, h3⟩ := sweep_invR (setAll R) ha xs.length (Nat.le_refl _)
  exact ⟨fun n hn => h1 n ((setAll_iff R n).2 hn), fun m g1 g2 g3 => h2 m (by omega) g2 g3, fun T hT hc => h3 T (fun k hk => hT k ((setAll_iff R k).1 hk)) hc⟩

end Go.Proofs.Ytbdjdgamnnifjaa
