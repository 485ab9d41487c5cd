/-
  The model's Solve where nothing is told.
-/
import Derived.Test.YtepamfkbeccmaaaDraw8
namespace Go.Proofs.Ytepamfkbeccmaaa
open Go.RowKit Go.Deep
set_option linter.unusedVariables false

theorem l1Told_nil (vars : Int) (ao : Option Addr) (cap : Nat) (w : World) :
    Calls Try.prog 21 #[.slice ao 0 cap, .int .i64 vars] w fun e w' => e = .returned (.bool true) ∧ w' = w := by
  go_enter Try.func21, Try.ntmps21
  go_wp2
  go_rounds 1
  go_ret
  exact ⟨rfl, rfl⟩

def SolvePost (w : World) (e : Ending) (w' : World) : Prop :=
  ∃ (ao : Option Addr) (cap : Nat) (ms : List Bool) (b : Bool), e = .returned (.tuple #[.slice ao ms.length cap, .bool b]) ∧ IsBools w' (.slice ao ms.length cap) ms ∧ ms.length ≤ 60 ∧ Below w.heap.size w w'

theorem isBools_nil (w : World) (ao : Option Addr) (cap : Nat) : IsBools w (.slice ao 0 cap) [] := ⟨ao, cap, rfl, fun h => absurd rfl h⟩
theorem isInts_nil (w : World) (ao : Option Addr) (cap : Nat) : IsInts w (.slice ao 0 cap) [] := ⟨ao, cap, rfl, fun h => absurd rfl h⟩

set_option maxHeartbeats 2000000 in
theorem specSolve_nil (vars : Int) (v : Value) (css : List (List Int)) (ao2 : Option Addr) (cap2 : Nat) (w : World) (hv : IsRows w v css) (hn : css.length ≤ maxLen) (hm : ∀ i, i < css.length → (css.getD i []).length ≤ maxLen) :
    Calls Try.prog 12 #[.agg #[.int .i64 vars, v], .slice ao2 0 cap2] w (SolvePost w) := by
  have HV : Hid (∀ w', Below w.heap.size w w' → IsRows w' v css) := fun w' h => hv.below h
  obtain ⟨ao, cap, rfl, _⟩ := hv
  have hb0 : Hid (Below w.heap.size w (w.alloc (.cells #[.int .i64 vars, .slice ao css.length cap] 25))) := belOne _ _
  have ht0 : Hid (Two (w.alloc (.cells #[.int .i64 vars, .slice ao css.length cap] 25)) w.heap.size (.int .i64 vars) (.slice ao css.length cap)) := Two.new _ _ _ _
  have HL : Hid (css.length ≤ maxLen) := hn
  have HW : Hid (∀ i, i < css.length → (css.getD i []).length ≤ maxLen) := hm
  clear hn hm
  obtain ⟨ok, hok⟩ : ∃ ok, okB vars css = ok := ⟨_, rfl⟩
  have HOK : Hid (okB vars css = ok) := hok
  clear hok
  go_enter Try.func12, Try.ntmps12
  cases ok with
  | false =>
    go_wp2_with fail
    refine (specCnfOk_any _ _ css _ (HV.out _ hb0.out) HL.out HW.out).mono ?_
    rintro e w1 ⟨he, hb1⟩
    rw [HOK.out] at he
    subst he
    have HB1 : Hid (Below w.heap.size w w1) := belNext hb0.out hb1
    clear hb1
    go_wp2
    go_ret2
    exact ⟨_, _, [], false, rfl, isBools_nil _ _ _, by simp, belNext HB1.out (belOne _ _)⟩
  | true =>
    obtain ⟨hv0, hv1, hv2⟩ := vars_of_ok HOK.out
    obtain ⟨n, rfl⟩ : ∃ n : Nat, vars = n := ⟨vars.toNat, by omega⟩
    go_wp2_with fail
    refine (specCnfOk_any _ _ css _ (HV.out _ hb0.out) HL.out HW.out).mono ?_
    rintro e w1 ⟨he, hb1⟩
    rw [HOK.out] at he
    subst he
    have HB1 : Hid (Below w.heap.size w w1) := belNext hb0.out hb1
    have HT1 : Hid (Two w1 w.heap.size (.int .i64 (n : Int)) (.slice ao css.length cap)) := ht0.out.below hb1
    clear hb1
    have hl1 := HT1.out.lt
    have hc10 := HT1.out.c0
    have hc11 := HT1.out.c1
    go_wp2_with fail
    refine (l1Told_nil _ _ _ _).mono ?_
    rintro e w1' ⟨rfl, rfl⟩
    go_wp2_with fail
    refine (l2Solve_any css n (by omega) (lits_of_ok HOK.out) hv2 HW.out (n + 1) [] _ _ _ ⟨by simp, by simp⟩ (by simp) (HV.out _ HB1.out) (isInts_nil _ _ _)).mono ?_
    rintro e w2 ⟨v2, he, hi2, hg2, hb2⟩
    obtain ⟨rl, rb, hr⟩ : ∃ rl rb, solveF n css (n + 1) [] = (rl, rb) := ⟨_, _, rfl⟩
    rw [hr] at he hi2 hg2
    have hi2' := hi2
    obtain ⟨ao3, cap3, rfl, _⟩ := hi2
    subst he
    have HI2 : Hid (IsInts w2 (.slice ao3 rl.length cap3) rl) := hi2'
    have HG2 : Hid (Good n rl) := hg2
    have HB2 : Hid (Below w.heap.size w w2) := belNext HB1.out hb2
    have HT2 : Hid (Two w2 w.heap.size (.int .i64 (n : Int)) (.slice ao css.length cap)) := HT1.out.below hb2
    clear hi2' hg2 hb2 hr hl1 hc10 hc11
    have hl2 := HT2.out.lt
    have hc20 := HT2.out.c0
    have hc21 := HT2.out.c1
    cases rb with
    | false =>
      go_wp2
      go_ret2
      exact ⟨_, _, [], false, rfl, isBools_nil _ _ _, by simp, belNext HB2.out (belOne _ _)⟩
    | true =>
      have hrl : Hid (rl.length ≤ maxLen) := by have := HG2.out.length_le (by omega); show rl.length ≤ maxLen; unfold maxLen; omega
      go_wp2_with fail
      refine (l2Model_any _ rl n _ HI2.out hrl.out (by omega) HG2.out.1).mono ?_
      rintro e w3 ⟨rfl, hb3, hrow3⟩
      have HM3 : Hid (IsBools w3 (.slice (some ⟨w2.heap.size, 0, none⟩) n n) (modelL n rl)) := isBools_model hrow3
      have HB3 : Hid (Below w.heap.size w w3) := belNext HB2.out hb3
      clear hb3 hrow3
      go_wp2
      go_ret2
      exact ⟨some ⟨w2.heap.size, 0, none⟩, n, modelL n rl, true, by rw [modelL_length]; rfl, by rw [modelL_length]; exact HM3.out, by rw [modelL_length]; omega, HB3.out⟩

end Go.Proofs.Ytepamfkbeccmaaa
