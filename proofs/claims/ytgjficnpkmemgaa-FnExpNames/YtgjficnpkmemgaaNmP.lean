/-
  Names, each once and ascending: what the model's insertion leaves is what sorting and leaving out repeats leaves. Plain facts, of no program.
-/
import Derived.Lib.SlicesCompact
namespace Go.Proofs.Ytgjficnpkmemgaa
set_option linter.unusedVariables false
open Go.Proofs

abbrev Bs := List UInt8

theorem bs_lt_trans {a b c : Bs} (h : a < b) (k : b < c) : a < c := List.lt_trans h k
theorem bs_lt_irrefl (a : Bs) : ¬ a < a := List.lt_irrefl a
theorem bs_lt_of {a b : Bs} (h : a ≤ b) (k : a ≠ b) : a < b := by
  by_cases hb : a < b
  · exact hb
  · exact absurd (List.le_antisymm h (List.not_lt.1 hb)) k

/-- Two ascending lists with the same members are the same. -/
theorem asc_eq : ∀ (A B : List Bs), A.Pairwise (· < ·) → B.Pairwise (· < ·) → (∀ x, x ∈ A ↔ x ∈ B) → A = B
  | [], [], _, _, _ => rfl
  | [], b :: bs, _, _, h => by have := (h b).2 (by simp); simp at this
  | a :: as, [], _, _, h => by have := (h a).1 (by simp); simp at this
  | a :: as, b :: bs, hA, hB, h => by
    rw [List.pairwise_cons] at hA hB
    have hab : a = b := by
      have h1 := (h a).1 (by simp)
      have h2 := (h b).2 (by simp)
      rcases List.mem_cons.1 h1 with h1 | h1
      · exact h1
      rcases List.mem_cons.1 h2 with h2 | h2
      · exact h2.symm
      exact absurd (bs_lt_trans (hB.1 a h1) (hA.1 b h2)) (bs_lt_irrefl b)
    subst hab
    rw [asc_eq as bs hA.2 hB.2 (fun x => ?_)]
    constructor
    · intro hx
      rcases List.mem_cons.1 ((h x).1 (List.mem_cons_of_mem _ hx)) with e | e
      · subst e; exact absurd (hA.1 x hx) (bs_lt_irrefl x)
      · exact e
    · intro hx
      rcases List.mem_cons.1 ((h x).2 (List.mem_cons_of_mem _ hx)) with e | e
      · subst e; exact absurd (hB.1 x hx) (bs_lt_irrefl x)
      · exact e

/-- One more name put among ascending ones. -/
def putN : List Bs → Bs → List Bs
  | [], s => [s]
  | x :: xs, s => if x < s then x :: putN xs s else if x = s then x :: xs else s :: x :: xs

theorem mem_putN (s y : Bs) : ∀ l : List Bs, y ∈ putN l s ↔ y = s ∨ y ∈ l
  | [] => by simp [putN]
  | x :: xs => by
    rw [putN]
    split
    · rw [List.mem_cons, mem_putN s y xs, List.mem_cons]; exact ⟨fun h => by rcases h with h | h | h <;> simp [h], fun h => by rcases h with h | h | h <;> simp [h]⟩
    · split
      · next h => subst h; simp
      · simp

theorem asc_putN (s : Bs) : ∀ l : List Bs, l.Pairwise (· < ·) → (putN l s).Pairwise (· < ·)
  | [], _ => by simp [putN]
  | x :: xs, h => by
    rw [List.pairwise_cons] at h
    rw [putN]
    split
    · next hx =>
      rw [List.pairwise_cons]
      refine ⟨fun y hy => ?_, asc_putN s xs h.2⟩
      rcases (mem_putN s y xs).1 hy with e | e
      · subst e; exact hx
      · exact h.1 y e
    · next hx =>
      split
      · exact List.pairwise_cons.2 h
      · next hne =>
        have hs : s < x := bs_lt_of (List.not_lt.1 hx) (fun e => hne e.symm)
        rw [List.pairwise_cons]
        refine ⟨fun y hy => ?_, List.pairwise_cons.2 h⟩
        rcases List.mem_cons.1 hy with e | e
        · subst e; exact hs
        · exact bs_lt_trans hs (h.1 y e)

theorem fold_putN : ∀ (L l : List Bs), l.Pairwise (· < ·) → (L.foldl putN l).Pairwise (· < ·) ∧ ∀ y, y ∈ L.foldl putN l ↔ y ∈ l ∨ y ∈ L
  | [], l, h => ⟨h, fun y => by simp⟩
  | s :: L, l, h => by
    obtain ⟨h1, h2⟩ := fold_putN L (putN l s) (asc_putN s l h)
    refine ⟨h1, fun y => ?_⟩
    rw [List.foldl_cons, h2 y, mem_putN, List.mem_cons]
    exact ⟨fun h => by rcases h with (h | h) | h <;> simp [h], fun h => by rcases h with h | h | h <;> simp [h]⟩

/-- What leaving out repeats leaves of a row that ascends, ties let be. -/
theorem upTo_asc (d : Array Bs) (hd : ∀ i j, i ≤ j → j < d.size → d[i]! ≤ d[j]!) : ∀ m, m ≤ d.size → (Lib.compactUpTo d m).Pairwise (· < ·) ∧ ∀ x, x ∈ Lib.compactUpTo d m ↔ ∃ i, i < m ∧ d[i]! = x
  | 0, _ => by simp [Lib.compactUpTo]
  | m + 1, hm => by
    obtain ⟨h1, h2⟩ := upTo_asc d hd m (by omega)
    rw [Lib.compactUpTo_succ]
    by_cases hz : m = 0
    · subst hz
      rw [if_pos (Lib.keeps_lt_one d 0 (by omega))]
      have he : Lib.compactUpTo d 0 = [] := by simp [Lib.compactUpTo]
      rw [he]
      refine ⟨by simp, fun x => ?_⟩
      constructor
      · intro h
        rw [List.nil_append, List.mem_singleton] at h
        exact ⟨0, by omega, h.symm⟩
      · rintro ⟨i, hi, e⟩; obtain rfl : i = 0 := by omega
        simp [e]
    by_cases he : d[m]! = d[m - 1]!
    · rw [Lib.keeps_neg (by omega) he]
      simp only [Bool.false_eq_true, if_false, List.append_nil]
      refine ⟨h1, fun x => ?_⟩
      rw [h2 x]
      constructor
      · rintro ⟨i, hi, e⟩; exact ⟨i, by omega, e⟩
      · rintro ⟨i, hi, e⟩
        by_cases hi' : i < m
        · exact ⟨i, hi', e⟩
        · obtain rfl : i = m := by omega
          exact ⟨i - 1, by omega, by rw [← he]; exact e⟩
    · rw [Lib.keeps_pos he]
      simp only [if_true]
      refine ⟨?_, fun x => ?_⟩
      · rw [List.pairwise_append]
        refine ⟨h1, by simp, fun a ha b hb => ?_⟩
        obtain ⟨i, hi, rfl⟩ := (h2 a).1 ha
        obtain rfl := List.mem_singleton.1 hb
        refine bs_lt_of (hd i m (by omega) (by omega)) (fun e => he ?_)
        exact List.le_antisymm (by rw [← e]; exact hd i (m - 1) (by omega) (by omega)) (hd (m - 1) m (by omega) (by omega))
      · rw [List.mem_append, h2 x, List.mem_singleton]
        constructor
        · rintro (⟨i, hi, e⟩ | e)
          · exact ⟨i, by omega, e⟩
          · exact ⟨m, by omega, e.symm⟩
        · rintro ⟨i, hi, e⟩
          by_cases hi' : i < m
          · exact .inl ⟨i, hi', e⟩
          · obtain rfl : i = m := by omega
            exact .inr e.symm

/-- Sorting and leaving out repeats leaves what putting one after another among none leaves. -/
theorem compact_sort (L : List Bs) : Lib.compact (L.mergeSort fun x y => decide (x ≤ y)) = L.foldl putN [] := by
  have hsort : (L.mergeSort fun x y => decide (x ≤ y)).Pairwise (fun x y => decide (x ≤ y) = true) := List.pairwise_mergeSort (fun a b c h1 h2 => by
    simp only [decide_eq_true_eq] at *
    exact List.le_trans h1 h2) (fun a b => by
    have := List.le_total a b
    simpa using this) L
  obtain ⟨S, hS⟩ : ∃ S, S = (L.mergeSort fun x y => decide (x ≤ y)) := ⟨_, rfl⟩
  have hmem : ∀ x, x ∈ S ↔ x ∈ L := fun x => by rw [hS]; exact List.mem_mergeSort
  rw [← hS] at hsort ⊢
  have hd : ∀ i j, i ≤ j → j < S.toArray.size → S.toArray[i]! ≤ S.toArray[j]! := by
    intro i j hij hj
    have hj' : j < S.length := by simpa using hj
    have hi' : i < S.length := by omega
    have e1 : S.toArray[i]! = S[i] := by simp [hi']
    have e2 : S.toArray[j]! = S[j] := by simp [hj']
    rw [e1, e2]
    by_cases h : i = j
    · subst h; exact List.le_refl _
    · simpa using List.pairwise_iff_getElem.1 hsort i j hi' hj' (by omega)
  obtain ⟨h1, h2⟩ := upTo_asc S.toArray hd S.length (by simp)
  obtain ⟨h3, h4⟩ := fold_putN L [] List.Pairwise.nil
  refine asc_eq _ _ h1 h3 (fun x => ?_)
  show x ∈ Lib.compactUpTo S.toArray S.length ↔ _
  rw [h2 x, h4 x, ← hmem x]
  constructor
  · rintro ⟨i, hi, e⟩
    refine .inr ?_
    have e1 : S.toArray[i]! = S[i] := by simp [hi]
    rw [← e, e1]; exact List.getElem_mem hi
  · rintro (h | h)
    · cases h
    · obtain ⟨i, hi, e⟩ := List.getElem_of_mem h
      exact ⟨i, hi, by simp [hi, e]⟩

end Go.Proofs.Ytgjficnpkmemgaa
