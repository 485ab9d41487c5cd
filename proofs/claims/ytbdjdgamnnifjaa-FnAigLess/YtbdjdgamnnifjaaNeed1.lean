/-
  What something needs: the least set of nodes that holds a node and, with an and, both its parts. Plain facts: a search that marks, and a sweep from the last and to the first, both find it.
-/
import Derived.Test.YtbdjdgamnnifjaaBase
namespace Go.Proofs.Ytbdjdgamnnifjaa
set_option linter.unusedVariables false

/-- The two nodes of an and. -/
def kidA (F : Nat) (xs : List (Int × Int)) (n : Nat) : Nat := ((xs.getD (n - F) (0, 0)).1 / 2).toNat
def kidB (F : Nat) (xs : List (Int × Int)) (n : Nat) : Nat := ((xs.getD (n - F) (0, 0)).2 / 2).toNat

def setS (S : Nat → Bool) (k : Nat) : Nat → Bool := fun i => if i = k then true else S i
theorem setS_same (S : Nat → Bool) (k : Nat) : setS S k k = true := by simp [setS]
theorem setS_other {S : Nat → Bool} {k i : Nat} (h : i ≠ k) : setS S k i = S i := by simp [setS, h]
theorem setS_sub {S : Nat → Bool} {k i : Nat} (h : S i = true) : setS S k i = true := by unfold setS; split <;> simp_all
theorem setS_of {S : Nat → Bool} {k i : Nat} (h : setS S k i = true) : i = k ∨ S i = true := by
  unfold setS at h
  split at h
  · exact .inl ‹_›
  · exact .inr h

/-- With an and below a number, both its parts. -/
def ClosedB (F : Nat) (xs : List (Int × Int)) (N : Nat) (S : Nat → Bool) : Prop := ∀ m, F ≤ m → m < F + xs.length → m < N → S m = true → S (kidA F xs m) = true ∧ S (kidB F xs m) = true
def Closed (F : Nat) (xs : List (Int × Int)) (S : Nat → Bool) : Prop := ∀ m, F ≤ m → m < F + xs.length → S m = true → S (kidA F xs m) = true ∧ S (kidB F xs m) = true
/-- Ands mean what stands ahead. -/
def Ahead (F : Nat) (xs : List (Int × Int)) : Prop := ∀ m, F ≤ m → m < F + xs.length → kidA F xs m < m ∧ kidB F xs m < m

/-- What a search leaves. -/
structure MarkPost (F : Nat) (xs : List (Int × Int)) (S : Nat → Bool) (n N : Nat) (S' : Nat → Bool) : Prop where
  sub : ∀ k, S k = true → S' k = true
  has : S' n = true
  cb : ClosedB F xs N S'
  hi : ∀ k, n < k → S' k = S k
  least : ∀ T : Nat → Bool, (∀ k, S k = true → T k = true) → T n = true → Closed F xs T → ∀ k, S' k = true → T k = true

theorem MarkPost.there {F : Nat} {xs : List (Int × Int)} {S : Nat → Bool} {n N : Nat} (hc : ClosedB F xs N S) (h : S n = true) : MarkPost F xs S n N S :=
  ⟨fun _ h => h, h, hc, fun _ _ => rfl, fun T hT _ _ k hk => hT k hk⟩

theorem MarkPost.leaf {F : Nat} {xs : List (Int × Int)} {S : Nat → Bool} {n N : Nat} (hc : ClosedB F xs N S) (hn : ¬ (F ≤ n ∧ n < F + xs.length)) : MarkPost F xs S n N (setS S n) := by
  refine ⟨fun _ h => setS_sub h, setS_same S n, fun m h1 h2 h3 h4 => ?_, fun k hk => setS_other (by omega), fun T hT hn _ k hk => ?_⟩
  · have hmn : m ≠ n := by rintro rfl; exact hn ⟨h1, h2⟩
    rw [setS_other hmn] at h4
    have := hc m h1 h2 h3 h4
    exact ⟨setS_sub this.1, setS_sub this.2⟩
  · rcases setS_of hk with rfl | h
    · exact hn
    · exact hT k h

theorem ClosedB.set {F : Nat} {xs : List (Int × Int)} {S : Nat → Bool} {n N : Nat} (hc : ClosedB F xs N S) (h : n ≤ N) : ClosedB F xs n (setS S n) := fun m h1 h2 h3 h4 => by
  rw [setS_other (by omega)] at h4
  have := hc m h1 h2 (by omega) h4
  exact ⟨setS_sub this.1, setS_sub this.2⟩

theorem MarkPost.node {F : Nat} {xs : List (Int × Int)} {S S2 S3 : Nat → Bool} {n N : Nat} (ha : Ahead F xs) (hc : ClosedB F xs N S) (h1 : F ≤ n) (h2 : n < F + xs.length) (hN : n < N)
    (p : MarkPost F xs (setS S n) (kidA F xs n) n S2) (q : MarkPost F xs S2 (kidB F xs n) n S3) : MarkPost F xs S n N S3 := by
  have hk := ha n h1 h2
  have hsub : ∀ k, S k = true → S3 k = true := fun k h => q.sub k (p.sub k (setS_sub h))
  have hhi : ∀ k, n < k → S3 k = S k := fun k h => by rw [q.hi k (by omega), p.hi k (by omega), setS_other (by omega)]
  refine ⟨hsub, q.sub _ (p.sub _ (setS_same S n)), fun m g1 g2 g3 g4 => ?_, hhi, fun T hT hn hcl k hk' => ?_⟩
  · rcases Nat.lt_trichotomy m n with h | h | h
    · exact q.cb m g1 g2 h g4
    · subst h
      exact ⟨q.sub _ p.has, q.has⟩
    · rw [hhi m h] at g4
      have := hc m g1 g2 g3 g4
      exact ⟨hsub _ this.1, hsub _ this.2⟩
  · have hkT := hcl n h1 h2 hn
    have t1 : ∀ k, setS S n k = true → T k = true := fun k h => by
      rcases setS_of h with rfl | h
      · exact hn
      · exact hT k h
    exact q.least T (p.least T t1 hkT.1 hcl) hkT.2 hcl k hk'

/-- The least set. -/
structure Least (F : Nat) (xs : List (Int × Int)) (n : Nat) (S : Nat → Bool) : Prop where
  has : S n = true
  cl : Closed F xs S
  least : ∀ T : Nat → Bool, T n = true → Closed F xs T → ∀ k, S k = true → T k = true

theorem Least.uniq {F : Nat} {xs : List (Int × Int)} {n : Nat} {S S' : Nat → Bool} (h : Least F xs n S) (h' : Least F xs n S') : S = S' := by
  funext k
  rw [Bool.eq_iff_iff]
  exact ⟨h.least S' h'.has h'.cl k, h'.least S h.has h.cl k⟩

theorem MarkPost.isLeast {F : Nat} {xs : List (Int × Int)} {n N : Nat} {S : Nat → Bool} (h : MarkPost F xs (fun _ => false) n N S) (hN : F + xs.length ≤ N) : Least F xs n S :=
  ⟨h.has, fun m h1 h2 h3 => h.cb m h1 h2 (by omega) h3, fun T hT hc k hk => h.least T (fun k h => by cases h) hT hc k hk⟩

/-- One and of the sweep. -/
def sweep1 (F : Nat) (xs : List (Int × Int)) (S : Nat → Bool) (m : Nat) : Nat → Bool := if S m = true then setS (setS S (kidA F xs m)) (kidB F xs m) else S
/-- So many ands of the sweep, from the last on. -/
def sweepF (F : Nat) (xs : List (Int × Int)) (S : Nat → Bool) : Nat → (Nat → Bool)
  | 0 => S
  | j + 1 => sweep1 F xs (sweepF F xs S j) (F + (xs.length - 1 - j))

theorem sweep1_sub {F : Nat} {xs : List (Int × Int)} {S : Nat → Bool} {m k : Nat} (h : S k = true) : sweep1 F xs S m k = true := by
  unfold sweep1
  split
  · exact setS_sub (setS_sub h)
  · exact h
theorem sweep1_hi {F : Nat} {xs : List (Int × Int)} {S : Nat → Bool} {m k : Nat} (ha : Ahead F xs) (h1 : F ≤ m) (h2 : m < F + xs.length) (h : m ≤ k) : sweep1 F xs S m k = S k := by
  have := ha m h1 h2
  unfold sweep1
  split
  · rw [setS_other (by omega), setS_other (by omega)]
  · rfl

theorem sweep_inv {F : Nat} {xs : List (Int × Int)} {n : Nat} (ha : Ahead F xs) (j : Nat) (hj : j ≤ xs.length) :
    sweepF F xs (setS (fun _ => false) n) j n = true ∧
    (∀ m, F + (xs.length - j) ≤ m → m < F + xs.length → sweepF F xs (setS (fun _ => false) n) j m = true → sweepF F xs (setS (fun _ => false) n) j (kidA F xs m) = true ∧ sweepF F xs (setS (fun _ => false) n) j (kidB F xs m) = true) ∧
    (∀ T : Nat → Bool, T n = true → Closed F xs T → ∀ k, sweepF F xs (setS (fun _ => false) n) j k = true → T k = true) := by
  induction j with
  | zero =>
    refine ⟨setS_same _ _, fun m h1 h2 => by omega, fun T hT _ k hk => ?_⟩
    rcases setS_of hk with rfl | h
    · exact hT
    · cases h
  | succ j ih =>
    obtain ⟨i1, i2, i3⟩ := ih (by omega)
    rw [show sweepF F xs (setS (fun _ => false) n) (j + 1) = sweep1 F xs (sweepF F xs (setS (fun _ => false) n) j) (F + (xs.length - 1 - j)) from rfl]
    generalize sweepF F xs (setS (fun _ => false) n) j = S at *
    have hm1 : F ≤ F + (xs.length - 1 - j) := by omega
    have hm2 : F + (xs.length - 1 - j) < F + xs.length := by omega
    refine ⟨sweep1_sub i1, fun m h1 h2 h3 => ?_, fun T hT hc k hk => ?_⟩
    · rw [sweep1_hi ha hm1 hm2 (by omega)] at h3
      by_cases e : m = F + (xs.length - 1 - j)
      · subst e
        unfold sweep1
        rw [if_pos h3]
        exact ⟨setS_sub (setS_same _ _), setS_same _ _⟩
      · have := i2 m (by omega) h2 h3
        exact ⟨sweep1_sub this.1, sweep1_sub this.2⟩
    · unfold sweep1 at hk
      split at hk
      · rename_i hS
        have hk2 := hc _ hm1 hm2 (i3 T hT hc _ hS)
        rcases setS_of hk with rfl | h
        · exact hk2.2
        · rcases setS_of h with rfl | h
          · exact hk2.1
          · exact i3 T hT hc k h
      · exact i3 T hT hc k hk

theorem sweep_least {F : Nat} {xs : List (Int × Int)} {n : Nat} (ha : Ahead F xs) : Least F xs n (sweepF F xs (setS (fun _ => false) n) xs.length) := by
  obtain ⟨h1, h2, h3⟩ := sweep_inv (n := n) ha xs.length (Nat.le_refl _)
  exact ⟨h1, fun m g1 g2 g3 => h2 m (by omega) g2 g3, h3⟩

end Go.Proofs.Ytbdjdgamnnifjaa
