/-
  What the model's steps come to, as plain functions of lists: no walk, nothing of the program.
-/
import Derived.Test.YtepamfkbeccmaaaOk
namespace Go.Proofs.Ytepamfkbeccmaaa

/-- What a clause says at once, given what is told; 'left' is the one literal that is left so far. -/
def unitL (told : List Int) : List Int → Int → Int × Bool
  | [], left => (left, decide (left ≠ 0))
  | x :: r, left => if told.contains x = true then (0, true) else if (told.contains (-x) || x == left) = true then unitL told r left else if left ≠ 0 then (0, true) else unitL told r x

theorem unitL_told {told r : List Int} {x left : Int} (h : told.contains x = true) : unitL told (x :: r) left = (0, true) := by simp only [unitL]; rw [if_pos h]
theorem unitL_skip {told r : List Int} {x left : Int} (h1 : told.contains x = false) (h2 : (told.contains (-x) || x == left) = true) : unitL told (x :: r) left = unitL told r left := by
  simp only [unitL]; rw [if_neg (by rw [h1]; decide), if_pos h2]
theorem unitL_two {told r : List Int} {x left : Int} (h1 : told.contains x = false) (h2 : (told.contains (-x) || x == left) = false) (h3 : left ≠ 0) : unitL told (x :: r) left = (0, true) := by
  simp only [unitL]; rw [if_neg (by rw [h1]; decide), if_neg (by rw [h2]; decide), if_pos h3]
theorem unitL_new {told r : List Int} {x left : Int} (h1 : told.contains x = false) (h2 : (told.contains (-x) || x == left) = false) (h3 : left = 0) : unitL told (x :: r) left = unitL told r x := by
  simp only [unitL]; rw [if_neg (by rw [h1]; decide), if_neg (by rw [h2]; decide), if_neg (fun h => h h3)]

/-- The first clause that says something: (x, true): it says x; (0, true): none does; (_, false): one cannot hold. -/
def scanL (told : List Int) : List (List Int) → Int × Bool
  | [] => (0, true)
  | c :: r => if (unitL told c 0).2 = false then (0, false) else if (unitL told c 0).1 ≠ 0 then ((unitL told c 0).1, true) else scanL told r

/-- What follows at once, at most so many times. -/
def unitsF (css : List (List Int)) : Nat → List Int → List Int × Bool
  | 0, told => (told, true)
  | f + 1, told => if (scanL told css).2 = false then (told, false) else if (scanL told css).1 = 0 then (told, true) else unitsF css f (told ++ [(scanL told css).1])

/-- The first variable of which nothing is told, from k on. -/
def nextL (told : List Int) : Nat → Nat → Int
  | 0, _ => 0
  | n + 1, k => if told.contains (k : Int) = false ∧ told.contains (-(k : Int)) = false then (k : Int) else nextL told n (k + 1)

/-- Literals of so many variables, of each variable one at most. -/
def Good (vars : Int) (told : List Int) : Prop := (∀ x ∈ told, litB vars x = true) ∧ (told.map Int.natAbs).Nodup

theorem nodup_le : ∀ (n : Nat) (l : List Nat), l.Nodup → (∀ x ∈ l, 1 ≤ x ∧ x ≤ n) → l.length ≤ n := by
  intro n
  induction n with
  | zero =>
    intro l _ h
    cases l with
    | nil => simp
    | cons a r => have := h a (by simp); omega
  | succ n ih =>
    intro l hn h
    by_cases hm : n + 1 ∈ l
    · have h1 := ih (l.erase (n + 1)) (hn.erase _) (fun x hx => by
        have hx2 := (hn.mem_erase_iff).1 hx
        have := h x hx2.2
        omega)
      rw [List.length_erase_of_mem hm] at h1
      omega
    · have h1 := ih l hn (fun x hx => by
        have h2 := h x hx
        have : x ≠ n + 1 := fun e => hm (e ▸ hx)
        omega)
      omega

theorem Good.length_le {vars : Int} {told : List Int} (h : Good vars told) (h0 : 0 ≤ vars) : told.length ≤ vars.toNat := by
  have h1 := nodup_le vars.toNat (told.map Int.natAbs) h.2 (fun x hx => by
    obtain ⟨y, hy, rfl⟩ := List.mem_map.1 hx
    have := litB_iff.1 (h.1 y hy)
    omega)
  simpa using h1

theorem Good.snoc {vars : Int} {told : List Int} (h : Good vars told) {x : Int} (hx : litB vars x = true) (h1 : told.contains x = false) (h2 : told.contains (-x) = false) : Good vars (told ++ [x]) := by
  refine ⟨fun y hy => ?_, ?_⟩
  · rcases List.mem_append.1 hy with h' | h'
    · exact h.1 y h'
    · simp at h'; subst h'; exact hx
  · rw [List.map_append, List.nodup_append]
    refine ⟨h.2, by simp, fun a ha b hb => ?_⟩
    obtain ⟨y, hy, rfl⟩ := List.mem_map.1 ha
    simp at hb
    subst hb
    intro e
    have e1 : y = x ∨ y = -x := by omega
    rcases e1 with e1 | e1
    · subst e1; simp [hy] at h1
    · subst e1; simp [hy] at h2

/-- What a clause says is one of its literals, of whose variable nothing is told. -/
theorem unitL_says (told : List Int) : ∀ (c : List Int) (left : Int), (left ≠ 0 → told.contains left = false ∧ told.contains (-left) = false) → ∀ x, (unitL told c left).1 = x → x ≠ 0 → (x ∈ c ∨ x = left) ∧ told.contains x = false ∧ told.contains (-x) = false
  | [], left, hl, x, hx, h0 => by
    simp only [unitL] at hx
    subst hx
    exact ⟨.inr rfl, hl h0⟩
  | y :: r, left, hl, x, hx, h0 => by
    simp only [unitL] at hx
    split at hx
    · exact absurd hx.symm h0
    · rename_i h1
      split at hx
      · have := unitL_says told r left hl x hx h0
        exact ⟨this.1.elim (fun h => .inl (by simp [h])) .inr, this.2⟩
      · rename_i h2
        split at hx
        · exact absurd hx.symm h0
        · simp only [Bool.or_eq_true, not_or, Bool.not_eq_true] at h1 h2
          have := unitL_says told r y (fun _ => ⟨h1, h2.1⟩) x hx h0
          exact ⟨this.1.elim (fun h => .inl (by simp [h])) (fun h => .inl (by simp [h])), this.2⟩

theorem scanL_says (told : List Int) : ∀ (css : List (List Int)) (x : Int), (scanL told css).1 = x → x ≠ 0 → (∃ c ∈ css, x ∈ c) ∧ told.contains x = false ∧ told.contains (-x) = false
  | [], x, hx, h0 => by simp only [scanL] at hx; exact absurd hx.symm h0
  | c :: r, x, hx, h0 => by
    simp only [scanL] at hx
    split at hx
    · exact absurd hx.symm h0
    · split at hx
      · have := unitL_says told c 0 (fun h => absurd rfl h) x hx h0
        exact ⟨⟨c, by simp, this.1.elim id (fun h => absurd h h0)⟩, this.2⟩
      · obtain ⟨⟨d, hd, hxd⟩, h2⟩ := scanL_says told r x hx h0
        exact ⟨⟨d, by simp [hd], hxd⟩, h2⟩

theorem Good.step {vars : Int} {css : List (List Int)} (hc : ∀ xs ∈ css, ∀ x ∈ xs, litB vars x = true) {told : List Int} (h : Good vars told) (hx : (scanL told css).1 ≠ 0) : Good vars (told ++ [(scanL told css).1]) := by
  obtain ⟨⟨c, h1, h2⟩, h3, h4⟩ := scanL_says told css _ rfl hx
  exact h.snoc (hc c h1 _ h2) h3 h4

theorem Good.units {vars : Int} {css : List (List Int)} (hc : ∀ xs ∈ css, ∀ x ∈ xs, litB vars x = true) : ∀ (f : Nat) (told : List Int), Good vars told → Good vars (unitsF css f told).1
  | 0, told, h => by simpa [unitsF] using h
  | f + 1, told, h => by
    simp only [unitsF]
    split
    · exact h
    · split
      · exact h
      · rename_i h2
        exact Good.units hc f _ (h.step hc h2)

end Go.Proofs.Ytepamfkbeccmaaa
