/-
  The program's ExpOk, as a function: terms grown as long as there is room; plain facts.
-/
import Derived.Test.YthbjihamhfahcaaDoorExpM
namespace Go.Proofs.YthbjihamhfahcaaDoor
set_option linter.unusedVariables false

/-- Whether a node has no number and no text that its kind does not ask for. -/
def tellsB (k n : Int) (s : List UInt8) : Bool := (decide (n = 0) || decide (k = 1)) && (((s == []) || decide (k = 4)) || decide (k = 6))
def kidsN (k : Int) : Nat := if k = 5 then 1 else if k = 6 then 2 else if k = 7 then 3 else 0
/-- Whether the parts make a term. -/
def joinB (k n : Int) (s : List UInt8) : Bool :=
  if k = 1 then decide (0 ≤ n) && decide (n ≤ 999) else if k = 2 then true else if k = 3 then true else if k = 4 then nameB s else if k = 5 then true else if k = 6 then !(decide (signL s + 1 = 0)) else if k = 7 then true else false

theorem signL_ge (s : List UInt8) : -1 ≤ signL s := by unfold signL; repeat' split <;> omega

theorem oneB_split (k n : Int) (s : List UInt8) (m : Nat) : oneB k n s m = (tellsB k n s && (decide (m = kidsN k) && joinB k n s)) := by
  have hs := signL_ge s
  have h0 : ((!(decide (signL s + 1 = 0))) = decide (0 ≤ signL s)) := by
    by_cases h : signL s + 1 = 0
    · rw [decide_eq_true h, decide_eq_false (by omega)]; rfl
    · rw [decide_eq_false h, decide_eq_true (by omega)]; rfl
  unfold oneB tellsB kidsN joinB
  rw [h0]
  generalize decide (0 ≤ signL s) = g
  generalize nameB s = nb
  generalize (s == []) = se
  by_cases k1 : k = 1
  · subst k1
    simp only [if_true, decide_true, Bool.or_true, Bool.true_and]
    simp
    cases se <;> simp
    exact Bool.and_comm _ _
  by_cases k2 : k = 2
  · subst k2; simp; cases se <;> simp
  by_cases k3 : k = 3
  · subst k3; simp; cases se <;> simp
  by_cases k4 : k = 4
  · subst k4; simp; cases nb <;> simp
  by_cases k5 : k = 5
  · subst k5; simp; cases se <;> simp
  by_cases k6 : k = 6
  · subst k6; simp; cases g <;> simp
  by_cases k7 : k = 7
  · subst k7; simp; cases se <;> simp
  simp [k1, k2, k3, k4, k5, k6, k7]

mutual
/-- What room is left when the term of a node so deep is made; none if it can't be. -/
def growT : ExpT → Nat → Nat → Option Nat
  | .node k n s ks, room, deep => if room = 0 ∨ 12 < deep ∨ tellsB k n s.toList = false ∨ ks.length ≠ kidsN k then none else
      match growL ks (room - 1) (deep + 1) with
      | none => none
      | some r => if joinB k n s.toList = true then some r else none
def growL : List ExpT → Nat → Nat → Option Nat
  | [], room, _ => some room
  | t :: l, room, deep => match growT t room deep with
      | none => none
      | some r => growL l r deep
end

theorem growL_iff (ks : List ExpT) (ih : ∀ t ∈ ks, ∀ room deep r, growT t room deep = some r ↔ (allT t = true ∧ sizeT t ≤ room ∧ deepT t + deep ≤ 13 ∧ r = room - sizeT t)) : ∀ room deep r, growL ks room deep = some r ↔ (allL ks = true ∧ sizeL ks ≤ room ∧ (ks ≠ [] → deepL ks + deep ≤ 13) ∧ r = room - sizeL ks) := by
  induction ks with
  | nil => intro room deep r; rw [growL, allL, sizeL]; simp [eq_comm]
  | cons t l ih2 =>
    intro room deep r
    have h1 := ih t (by simp) room deep
    have h2 := ih2 (fun t ht => ih t (by simp [ht]))
    have hd : 1 ≤ deepT t := by obtain ⟨k, n, s, ks⟩ := t; rw [deepT]; omega
    rw [growL, allL, sizeL, deepL]
    cases hg : growT t room deep with
    | none =>
      simp only
      constructor
      · intro h; cases h
      · rintro ⟨a, b, c, d⟩
        rw [Bool.and_eq_true] at a
        have hm := c (by simp)
        have hle : deepT t ≤ Nat.max (deepT t) (deepL l) := Nat.le_max_left _ _
        have := (h1 (room - sizeT t)).2 ⟨a.1, by omega, by omega, rfl⟩
        rw [hg] at this
        cases this
    | some r1 =>
      simp only
      obtain ⟨a1, b1, c1, d1⟩ := (h1 r1).1 hg
      rw [h2 r1 deep r, Bool.and_eq_true]
      subst d1
      constructor
      · rintro ⟨a, b, c, d⟩
        refine ⟨⟨a1, a⟩, by omega, fun _ => ?_, by omega⟩
        by_cases hl : l = []
        · subst hl
          have e : Nat.max (deepT t) (deepL []) = deepT t := Nat.max_eq_left (by rw [deepL]; omega)
          rw [e]
          exact c1
        · have := c hl
          have hm : Nat.max (deepT t) (deepL l) ≤ 13 - deep := Nat.max_le.2 ⟨by omega, by omega⟩
          omega
      · rintro ⟨⟨_, a⟩, b, c, d⟩
        have hm := c (by simp)
        have hle : deepL l ≤ Nat.max (deepT t) (deepL l) := Nat.le_max_right _ _
        exact ⟨a, by omega, fun _ => by omega, by omega⟩

theorem growT_iff : ∀ (t : ExpT) (room deep r : Nat), growT t room deep = some r ↔ (allT t = true ∧ sizeT t ≤ room ∧ deepT t + deep ≤ 13 ∧ r = room - sizeT t) := by
  refine ExpT.ind (fun k n s ks ih room deep r => ?_)
  have hL := growL_iff ks ih
  rw [growT, allT, sizeT, deepT, oneB_split]
  by_cases hc : room = 0 ∨ 12 < deep ∨ tellsB k n s.toList = false ∨ ks.length ≠ kidsN k
  · rw [if_pos hc]
    constructor
    · intro h; cases h
    · rintro ⟨a, b, c, d⟩
      simp only [Bool.and_eq_true, decide_eq_true_eq] at a
      obtain ⟨⟨a1, a2, a3⟩, a4⟩ := a
      exfalso
      rcases hc with h | h | h | h
      · omega
      · omega
      · rw [a1] at h; cases h
      · exact h a2
  · rw [if_neg hc]
    have n1 : ¬ room = 0 := fun h => hc (.inl h)
    have n2 : ¬ 12 < deep := fun h => hc (.inr (.inl h))
    have n3 : tellsB k n s.toList = true := by cases h : tellsB k n s.toList with
      | true => rfl
      | false => exact absurd (.inr (.inr (.inl h))) hc
    have n4 : ks.length = kidsN k := Decidable.byContradiction fun h => hc (.inr (.inr (.inr h)))
    rw [n3, decide_eq_true n4, Bool.true_and, Bool.true_and]
    cases hg : growL ks (room - 1) (deep + 1) with
    | none =>
      simp only
      constructor
      · intro h; cases h
      · rintro ⟨a, b, c, d⟩
        rw [Bool.and_eq_true] at a
        have := (hL (room - 1) (deep + 1) (room - 1 - sizeL ks)).2 ⟨a.2, by omega, fun _ => by omega, rfl⟩
        rw [hg] at this
        cases this
    | some r1 =>
      obtain ⟨a1, b1, c1, d1⟩ := (hL (room - 1) (deep + 1) r1).1 hg
      simp only
      cases hj : joinB k n s.toList with
      | false =>
        simp
      | true =>
        rw [if_pos rfl]
        constructor
        · intro h
          have e := Option.some.inj h
          refine ⟨by rw [a1]; rfl, by omega, ?_, by omega⟩
          by_cases hk : ks = []
          · subst hk
            rw [show deepL [] = 0 from rfl]
            omega
          · have := c1 hk; omega
        · rintro ⟨a, b, c, d⟩
          rw [d1, d]
          congr 1
          omega

theorem grow_ok (t : ExpT) : (growT t 60 1).isSome = okE t := by
  unfold okE
  cases h : growT t 60 1 with
  | none =>
    cases ha : (decide (sizeT t ≤ 60) && (decide (deepT t ≤ 12) && allT t)) with
    | false => rfl
    | true =>
      simp only [Bool.and_eq_true, decide_eq_true_eq] at ha
      have := (growT_iff t 60 1 (60 - sizeT t)).2 ⟨ha.2.2, ha.1, by omega, rfl⟩
      rw [h] at this
      cases this
  | some r =>
    obtain ⟨a, b, c, d⟩ := (growT_iff t 60 1 r).1 h
    rw [a, decide_eq_true b, decide_eq_true (by omega)]
    rfl

end Go.Proofs.YthbjihamhfahcaaDoor
