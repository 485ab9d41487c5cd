/-
  Marks in the copy of a diagram that was handed to the program.
-/
import Derived.Test.YtknpifjkllcdeaaOneB
namespace Go.Proofs.Ytknpifjkllcdeaa
open Go.RowKit Go.Deep
set_option linter.unusedVariables false

set_option maxRecDepth 100000 in
set_option maxHeartbeats 2000000 in
theorem markBdd_copy (vars root : Int) (b n : Nat) (f : Nat → Value) (w : World) (h : w.rowIs b 50 (n * 3) f) (hl : n ≤ 1048576) :
    Calls Try.prog 21 #[.agg #[.int .i64 vars, .slice (some ⟨b, 0, none⟩) n n, .int .i64 root], .int .i64 1] w fun e w' => e = .returned (.int .i64 (1 + 3 * n)) ∧ Chg (· = b) w w' := by
  obtain ⟨W1, hW1⟩ : ∃ W1, W1 = w.alloc (.cells #[.int .i64 vars, .slice (some ⟨b, 0, none⟩) n n, .int .i64 root] 25) := ⟨_, rfl⟩
  have hA : BlkD W1 w.heap.size (.int .i64 vars) (.slice (some ⟨b, 0, none⟩) n n) (.int .i64 root) := by rw [hW1]; exact BlkD.new _ _ _ _
  have HB1 : Hid (Below w.heap.size w W1) := by rw [hW1]; exact belOne _ _
  have HM := hideN (markNds_to b n n f 1 W1 (h.of_block (HB1.out.block _ h.lt)) (Nat.le_refl _) (by omega) (by omega) (by omega))
  have HW1 := hideN hW1
  have x1 := hA.c1
  have x3 := hA.lt
  clear h hA hW1
  go_enter Try.func21, Try.ntmps21
  go_wp2_with fail
  rw [← HW1.out]
  refine HM.out.mono ?_
  rintro e w1 ⟨rfl, -, hc⟩
  have HC : Hid (Chg (· = b) w w1) := (Chg.of_below HB1.out).trans hc
  clear hc x1 x3
  go_wp2
  go_ret
  exact ⟨rfl, HC.out⟩

end Go.Proofs.Ytknpifjkllcdeaa
