/-
  Rows of numbers that are the same: eqIntS.
-/
import Derived.Test.YtknpifjkllcdeaaBase
import Derived.Deep.QuietTactic
import Derived.BigQuiet
namespace Go.Proofs.Ytknpifjkllcdeaa
open Go.RowKit Go.Deep

set_option maxHeartbeats 1000000 in
theorem eqIntS_same (v1 v2 : Value) (xs : List Int) (w : World) (h1 : IsInts w v1 xs) (h2 : IsInts w v2 xs) (hn : xs.length ≤ maxLen) :
    Calls Try.prog 30 #[v1, v2] w fun e w' => e = .returned (.bool true) ∧ ∃ n, w' = w.drewN n := by
  obtain ⟨ao1, cap1, rfl, h1⟩ := h1
  obtain ⟨ao2, cap2, rfl, h2⟩ := h2
  generalize hN : xs.length = n at *
  unfold maxLen at hn
  have HN : Hid (xs.length = n) := hN
  clear hN
  by_cases hne : 0 < n
  · have hx : xs ≠ [] := by intro e; have := HN.out; subst e; simp at this; omega
    obtain ⟨b1, off1, rfl, hc1⟩ := h1 hx
    obtain ⟨b2, off2, rfl, hc2⟩ := h2 hx
    have HC1 : Hid (∀ i, i < n → w.cell? ⟨b1, off1 + i, none⟩ = some (.int .i64 (xs.getD i 0))) := hc1
    have HC2 : Hid (∀ i, i < n → w.cell? ⟨b2, off2 + i, none⟩ = some (.int .i64 (xs.getD i 0))) := hc2
    clear hc1 hc2 h1 h2 hx
    go_enter Try.func30, Try.ntmps30
    go_wp2
    go_loopw [5] (fun i wr => ∃ k : Nat, k ≤ n ∧ i = .int .i64 k ∧ ∃ m, wr = w.drewN m) (fun i _ => n - (intOf i).toNat)
    case atStart => exact ⟨0, Nat.zero_le _, rfl, 0, rfl⟩
    case round =>
      obtain ⟨k, hk, rfl, m, rfl⟩ := hrel
      by_cases hlt : k < n
      · have hd1 := HC1.out k hlt
        have hd2 := HC2.out k hlt
        generalize xs.getD k 0 = x at *
        go_wp2
        go_quiet (fail)
        go_wp2
        go_roundw
        case rel => exact ⟨k + 1, by omega, by go_num, _, rfl⟩
        case measure => simp [intOf]; omega
      · go_wp2
        go_ret
        exact ⟨rfl, _, rfl⟩
  · clear h1 h2
    go_enter Try.func30, Try.ntmps30
    go_wp2
    go_rounds 1
    go_ret
    exact ⟨rfl, 0, rfl⟩

end Go.Proofs.Ytknpifjkllcdeaa
