/-
  The names of an expression, in its order; what putting them one after another leaves. Plain facts.
-/
import Derived.Test.YtgjficnpkmemgaaExpK
import Derived.Test.YtgjficnpkmemgaaNmP
namespace Go.Proofs.Ytgjficnpkmemgaa
set_option linter.unusedVariables false

mutual
/-- The names of an expression, in its order. -/
def namesT : ExpT → List Bs
  | .node k n s ks => if k = 4 then [s.data.toList] else namesL ks
def namesL : List ExpT → List Bs
  | [] => []
  | t :: r => namesT t ++ namesL r
end

theorem namesL_take_succ : ∀ (ks : List ExpT) (j : Nat), j < ks.length → namesL (ks.take (j + 1)) = namesL (ks.take j) ++ namesT (ks.getD j e0) := by
  intro ks
  induction ks with
  | nil => intro j h; simp at h
  | cons t r ih =>
    intro j h
    cases j with
    | zero => simp [namesL]
    | succ j =>
      rw [List.take_succ_cons, List.take_succ_cons, namesL, namesL, ih j (by simpa using h), List.append_assoc]
      rfl

/-- Names put one after another. -/
def putAll (l : List Bs) (L : List Bs) : List Bs := L.foldl putN l

theorem putAll_append (l A B : List Bs) : putAll l (A ++ B) = putAll (putAll l A) B := by unfold putAll; rw [List.foldl_append]
theorem putAll_one (l : List Bs) (s : Bs) : putAll l [s] = putN l s := rfl

theorem putN_length (s : Bs) : ∀ l : List Bs, (putN l s).length ≤ l.length + 1
  | [] => by simp [putN]
  | x :: xs => by
    have := putN_length s xs
    rw [putN]
    split
    · simp only [List.length_cons]; omega
    · split
      · simp only [List.length_cons]; omega
      · simp only [List.length_cons]; omega

theorem putAll_length : ∀ (L l : List Bs), (putAll l L).length ≤ l.length + L.length
  | [], l => by simp [putAll]
  | s :: L, l => by
    have h1 := putAll_length L (putN l s)
    have h2 := putN_length s l
    have h3 : putAll l (s :: L) = putAll (putN l s) L := rfl
    rw [h3, List.length_cons]; omega

/-- No more names than nodes. -/
theorem namesL_size (ks : List ExpT) (ih : ∀ t ∈ ks, (namesT t).length ≤ sizeT t) : (namesL ks).length ≤ sizeL ks := by
  induction ks with
  | nil => simp [namesL]
  | cons t r ihr =>
    have h1 := ih t (by simp)
    have h2 := ihr (fun t ht => ih t (by simp [ht]))
    rw [namesL, List.length_append, sizeL]; omega

theorem namesT_size : ∀ t : ExpT, (namesT t).length ≤ sizeT t := by
  refine ExpT.ind (fun k n s ks ih => ?_)
  have h := namesL_size ks ih
  rw [namesT, sizeT]
  split
  · simp
  · omega

/-- The insertion as the model makes it: the first place whose name is not less. -/
theorem putN_at (s : Bs) : ∀ (l : List Bs) (k : Nat), k ≤ l.length → (∀ i, i < k → l.getD i [] < s) → (k < l.length → ¬ l.getD k [] < s) →
    putN l s = if k < l.length ∧ l.getD k [] = s then l else l.take k ++ s :: l.drop k
  | [], k, hk, _, _ => by
    obtain rfl : k = 0 := by simpa using hk
    simp [putN]
  | x :: xs, 0, _, _, h => by
    have hx : ¬ x < s := h (by simp)
    rw [putN, if_neg hx]
    by_cases e : x = s
    · rw [if_pos e, if_pos ⟨by simp, e⟩]
    · rw [if_neg e, if_neg (fun c => e c.2)]
      rfl
  | x :: xs, k + 1, hk, hlt, h => by
    have hx : x < s := hlt 0 (by omega)
    have ih := putN_at s xs k (by simpa using hk) (fun i hi => hlt (i + 1) (by omega)) (fun hk' => h (by simpa using hk'))
    rw [putN, if_pos hx, ih]
    by_cases e : k < xs.length ∧ xs.getD k [] = s
    · rw [if_pos e, if_pos ⟨by simpa using e.1, e.2⟩]
    · rw [if_neg e, if_neg (fun c => e ⟨by simpa using c.1, c.2⟩)]
      rfl

end Go.Proofs.Ytgjficnpkmemgaa
