/-
  What the program asks of a node: tellsNoMore, kidsOf.
-/
import Derived.Test.YthbjihamhfahcaaDoorExpP
namespace Go.Proofs.YthbjihamhfahcaaDoor
open Go.RowKit Go.Deep
set_option linter.unusedVariables false

attribute [local go_sem] Oper.semAt_some

set_option maxHeartbeats 2000000 in
theorem tellsNoMore_any (k n : Int) (s : ByteArray) (ao : Option Addr) (m cap : Nat) (w : World) :
    Calls Tryd.prog 31 #[.agg #[.int .i64 k, .int .i64 n, .string s, .slice ao m cap]] w fun e w' => e = .returned (.bool (tellsB k n s.toList)) ∧ Below w.heap.size w w' := by
  by_cases hn : n = 0
  · subst hn
    cases hs : (s.toList == []) with
    | true =>
      have hv : tellsB k 0 s.toList = true := by unfold tellsB; simp [hs]
      rw [hv]
      clear hv
      go_enter Tryd.func31, Tryd.ntmps31
      go_wp2_with fail
      go_ret
      exact ⟨rfl, belOne _ _⟩
    | false =>
      by_cases h4 : k = 4
      · subst h4
        have hv : tellsB 4 0 s.toList = true := by unfold tellsB; simp
        rw [hv]
        clear hv
        go_enter Tryd.func31, Tryd.ntmps31
        go_wp2_with fail
        go_ret
        exact ⟨rfl, belOne _ _⟩
      · have q4 : (k == 4) = false := by simpa using h4
        by_cases h6 : k = 6
        · subst h6
          have hv : tellsB 6 0 s.toList = true := by unfold tellsB; simp
          rw [hv]
          clear hv
          go_enter Tryd.func31, Tryd.ntmps31
          go_wp2_with fail
          go_ret
          exact ⟨rfl, belOne _ _⟩
        · have q6 : (k == 6) = false := by simpa using h6
          have hv : tellsB k 0 s.toList = false := by unfold tellsB; simp [hs, h4, h6]
          rw [hv]
          clear hv
          go_enter Tryd.func31, Tryd.ntmps31
          go_wp2_with fail
          go_ret
          exact ⟨rfl, belOne _ _⟩
  · have qn : (n == 0) = false := by simpa using hn
    by_cases h1 : k = 1
    · subst h1
      cases hs : (s.toList == []) with
      | true =>
        have hv : tellsB 1 n s.toList = true := by unfold tellsB; simp [hs]
        rw [hv]
        clear hv
        go_enter Tryd.func31, Tryd.ntmps31
        go_wp2_with fail
        go_ret
        exact ⟨rfl, belOne _ _⟩
      | false =>
        have hv : tellsB 1 n s.toList = false := by unfold tellsB; simp [hs]
        rw [hv]
        clear hv
        go_enter Tryd.func31, Tryd.ntmps31
        go_wp2_with fail
        go_ret
        exact ⟨rfl, belOne _ _⟩
    · have q1 : (k == 1) = false := by simpa using h1
      have hv : tellsB k n s.toList = false := by unfold tellsB; simp [hn, h1]
      rw [hv]
      clear hv
      go_enter Tryd.func31, Tryd.ntmps31
      go_wp2_with fail
      go_ret
      exact ⟨rfl, belOne _ _⟩

theorem kidsOf_any (k : Int) (w : World) : Calls Tryd.prog 32 #[.int .i64 k] w fun e w' => e = .returned (.int .i64 (kidsN k : Int)) ∧ w' = w := by
  by_cases h5 : k = 5
  · subst h5
    have hv : kidsN 5 = 1 := by unfold kidsN; simp
    rw [hv]
    clear hv
    go_enter Tryd.func32, Tryd.ntmps32
    go_wp2_with fail
    go_ret
    exact ⟨rfl, rfl⟩
  by_cases h6 : k = 6
  · subst h6
    have hv : kidsN 6 = 2 := by unfold kidsN; simp
    rw [hv]
    clear hv
    go_enter Tryd.func32, Tryd.ntmps32
    go_wp2_with fail
    go_ret
    exact ⟨rfl, rfl⟩
  by_cases h7 : k = 7
  · subst h7
    have hv : kidsN 7 = 3 := by unfold kidsN; simp
    rw [hv]
    clear hv
    go_enter Tryd.func32, Tryd.ntmps32
    go_wp2_with fail
    go_ret
    exact ⟨rfl, rfl⟩
  have q5 : (k == 5) = false := by simpa using h5
  have q6 : (k == 6) = false := by simpa using h6
  have q7 : (k == 7) = false := by simpa using h7
  have hv : kidsN k = 0 := by unfold kidsN; simp [h5, h6, h7]
  rw [hv]
  clear hv
  go_enter Tryd.func32, Tryd.ntmps32
  go_wp2_with fail
  go_ret
  exact ⟨rfl, rfl⟩

end Go.Proofs.YthbjihamhfahcaaDoor
