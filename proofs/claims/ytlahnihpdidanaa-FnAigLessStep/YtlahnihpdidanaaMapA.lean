/-
  A circuit without what is needless: the map from ands to what they mean, told by the list of ands.
-/
import Derived.Test.YtlahnihpdidanaaLess1
import Derived.Test.YtlahnihpdidanaaAigOpen
import Derived.Maps.OwnSet
import Derived.DeepKeys4
namespace Go.Proofs.Ytlahnihpdidanaa
open Go.RowKit Go.Deep Go.Shelf
set_option linter.unusedVariables false

theorem andRow : (65 : TypeId) < Try.prog.types.size := of_decide_eq_true (by kernel_rfl)
theorem andWide : (match Try.prog.underlying 65 with | some (.array _ _) | some (.struct _) => true | _ => false) = true := by kernel_rfl
set_option maxRecDepth 100000 in
theorem andKeyed : Maps.Keyed Try.prog 65 := Maps.Keyed.of_law (deep_law_laid laidOut (m := 3) (by decide) andRow (by kernel_rfl) andWide)

/-- What an and reads as, as a key. -/
def keyA (p : Int × Int) : Lit := .string (keyBytes [.int .i64 p.1, .int .i64 p.2])
/-- Numbers that an and may bear here. -/
def Fits (p : Int × Int) : Prop := (0 ≤ p.1 ∧ p.1 ≤ 1000) ∧ 0 ≤ p.2 ∧ p.2 ≤ 1000

theorem wf_small {x : Int} (h0 : 0 ≤ x) (h1 : x ≤ 1000) : (Lit.int .i64 x).wf = true := by
  have e1 : IntKind.i64.min = -9223372036854775808 := by decide
  have e2 : IntKind.i64.max = 9223372036854775807 := by decide
  simp only [Lit.wf, e1, e2, Bool.and_eq_true, decide_eq_true_eq]
  omega

theorem keyOf_and (p : Int × Int) (h : Fits p) : keyOf Try.prog 65 (.agg #[.int .i64 p.1, .int .i64 p.2]) = some (keyA p) := by
  obtain ⟨⟨a0, a1⟩, b0, b1⟩ := h
  have w1 := wf_small a0 a1
  have w2 := wf_small b0 b1
  have hn : ∃ n, Try.prog.types.size = n + 1 := by
    obtain ⟨m, hm⟩ := Nat.exists_eq_succ_of_ne_zero (Nat.ne_of_gt (Nat.lt_of_le_of_lt (Nat.zero_le _) andRow))
    exact ⟨m, hm⟩
  obtain ⟨n, hn⟩ := hn
  have hu := Try.underlying65
  have hi := Try.underlying3
  have hk : Try.prog.keyType 65 = true := by kernel_rfl
  have hc : Try.prog.cellsOf 65 = 2 := by kernel_rfl
  have hc1 : Try.prog.cellsOf 3 = 1 := by kernel_rfl
  have hf : (Value.agg #[.int .i64 p.1, .int .i64 p.2]).formed Try.prog 65 = true := by simp [Value.formed, hu, hc]
  unfold keyOf
  rw [hu]
  simp only [hk, hf, Bool.and_self, if_true]
  rw [hn]
  simp [Program.keyLits, hu, hi, hc, hc1, w1, w2, keyA, Value.cells]

theorem keyA_inj {p q : Int × Int} (hp : Fits p) (hq : Fits q) (h : keyA p = keyA q) : p = q := by
  have h1 := keyOf_and p hp
  have h2 := keyOf_and q hq
  rw [h] at h1
  have e := andKeyed.inj h1 h2
  obtain ⟨p1, p2⟩ := p
  obtain ⟨q1, q2⟩ := q
  simpa using e

theorem keyA_lit (p : Int × Int) : WideAt.IsKeyLit (keyA p) := trivial

theorem whereA_snoc (xs : List (Int × Int)) (q p : Int × Int) : whereA (xs ++ [q]) p = if whereA xs p < xs.length then whereA xs p else if q = p then xs.length else xs.length + 1 := by
  induction xs with
  | nil =>
    by_cases e : q = p <;> simp [whereA, List.findIdx_cons, e]
  | cons a l ih =>
    unfold whereA at *
    rw [List.cons_append, List.findIdx_cons, List.findIdx_cons, ih]
    by_cases e : a = p
    · simp [e]
    · simp only [e, decide_false, cond_false, List.length_cons]
      clear ih
      generalize List.findIdx (fun q => decide (q = p)) l = k
      by_cases h1 : k < l.length <;> by_cases e2 : q = p <;> simp [h1, e2]

/-- The map tells of each and where it stands. -/
def FoundOk (F : Nat) (D : DataW Nat) (xs : List (Int × Int)) : Prop :=
  Maps.IsMap D ∧ ∀ p, Fits p → Maps.has D (keyA p) = decide (whereA xs p < xs.length) ∧ (whereA xs p < xs.length → D.atKey (keyA p) (.lit (.int .i64 0)) = .lit (.int .i64 (2 * ((F : Int) + (whereA xs p : Int)))))

theorem FoundOk.nil (F : Nat) : FoundOk F (.map []) [] := ⟨Maps.isMap_empty, fun p _ => ⟨by simp [Maps.has], fun h => absurd h (by simp)⟩⟩

theorem FoundOk.snoc {F : Nat} {D : DataW Nat} {xs : List (Int × Int)} (h : FoundOk F D xs) {q : Int × Int} (hq : Fits q) (hn : ¬ whereA xs q < xs.length) : FoundOk F (D.put (keyA q) (.lit (.int .i64 (2 * ((F : Int) + (xs.length : Int)))))) (xs ++ [q]) := by
  refine ⟨h.1.put _ _, fun p hp => ?_⟩
  rw [whereA_snoc, List.length_append, List.length_cons, List.length_nil]
  by_cases e : p = q
  · subst e
    rw [if_neg hn, if_pos rfl]
    exact ⟨by rw [Maps.has_put_same h.1 (keyA_lit _)]; simp, fun _ => by rw [Maps.atKey_put_same h.1 (keyA_lit _)]⟩
  · have hk : keyA p ≠ keyA q := fun e2 => e (keyA_inj hp hq e2)
    obtain ⟨h1, h2⟩ := h.2 p hp
    rw [Maps.has_put_other hk, Maps.atKey_put_other hk]
    by_cases hw : whereA xs p < xs.length
    · rw [if_pos hw]
      exact ⟨by rw [h1]; simp [hw]; omega, fun _ => h2 hw⟩
    · rw [if_neg hw, if_neg (fun e2 => e e2.symm)]
      exact ⟨by rw [h1]; simp [hw], fun h3 => by omega⟩

end Go.Proofs.Ytlahnihpdidanaa
