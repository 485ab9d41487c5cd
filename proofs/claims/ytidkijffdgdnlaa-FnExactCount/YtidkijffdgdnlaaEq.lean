/-
  Whether two are the same, where they are: eqIntS, eqIntSS, eqCnf.
-/
import Derived.Test.YtidkijffdgdnlaaBase
import Derived.Deep.QuietTactic
import Derived.BigQuiet
namespace Go.Proofs.Ytidkijffdgdnlaa
open Go.RowKit Go.Deep

set_option maxHeartbeats 1000000 in
theorem eqIntS_same (v1 v2 : Value) (xs : List Int) (w : World) (h1 : IsInts w v1 xs) (h2 : IsInts w v2 xs) (hn : xs.length ≤ maxLen) :
    Calls Try.prog 29 #[v1, v2] w fun e w' => e = .returned (.bool true) ∧ ∃ n, w' = w.drewN n := by
  obtain ⟨ao1, cap1, rfl, h1⟩ := h1
  obtain ⟨ao2, cap2, rfl, h2⟩ := h2
  generalize hN : xs.length = n at *
  unfold maxLen at hn
  have HN : Hid (xs.length = n) := hN
  clear hN
  by_cases hne : 0 < n
  · have hx : xs ≠ [] := by intro e; have := HN.out; subst e; simp at this; omega
    obtain ⟨b1, off1, rfl, hc1⟩ := h1 hx
    obtain ⟨b2, off2, rfl, hc2⟩ := h2 hx
    have HC1 : Hid (∀ i, i < n → w.cell? ⟨b1, off1 + i, none⟩ = some (.int .i64 (xs.getD i 0))) := hc1
    have HC2 : Hid (∀ i, i < n → w.cell? ⟨b2, off2 + i, none⟩ = some (.int .i64 (xs.getD i 0))) := hc2
    clear hc1 hc2 h1 h2 hx
    go_enter Try.func29, Try.ntmps29
    go_wp2
    go_loopw [5] (fun i wr => ∃ k : Nat, k ≤ n ∧ i = .int .i64 k ∧ ∃ m, wr = w.drewN m) (fun i _ => n - (intOf i).toNat)
    case atStart => exact ⟨0, Nat.zero_le _, rfl, 0, rfl⟩
    case round =>
      obtain ⟨k, hk, rfl, m, rfl⟩ := hrel
      by_cases hlt : k < n
      · have hd1 := HC1.out k hlt
        have hd2 := HC2.out k hlt
        generalize xs.getD k 0 = x at *
        go_wp2
        go_quiet (fail)
        go_wp2
        go_roundw
        case rel => exact ⟨k + 1, by omega, by go_num, _, rfl⟩
        case measure => simp [intOf]; omega
      · go_wp2
        go_ret
        exact ⟨rfl, _, rfl⟩
  · clear h1 h2
    go_enter Try.func29, Try.ntmps29
    go_wp2
    go_rounds 1
    go_ret
    exact ⟨rfl, 0, rfl⟩

set_option maxHeartbeats 1000000 in
theorem eqIntSS_same (v1 v2 : Value) (xss : List (List Int)) (w : World) (h1 : IsRows w v1 xss) (h2 : IsRows w v2 xss) (hn : xss.length + sumLen xss ≤ 1048576) :
    Calls Try.prog 22 #[v1, v2] w fun e w' => e = .returned (.bool true) ∧ ∃ n, w' = w.drewN n := by
  obtain ⟨ao1, cap1, rfl, h1⟩ := h1
  obtain ⟨ao2, cap2, rfl, h2⟩ := h2
  have HW : Hid (∀ i, i < xss.length → (xss.getD i []).length ≤ maxLen) := fun i hi => by have := row_le xss i hi; unfold maxLen; omega
  generalize hN : xss.length = n at *
  have HN : Hid (xss.length = n) := hN
  clear hN
  by_cases hne : 0 < n
  · have hx : xss ≠ [] := by intro e; have := HN.out; subst e; simp at this; omega
    obtain ⟨b1, off1, rfl, hc1⟩ := h1 hx
    obtain ⟨b2, off2, rfl, hc2⟩ := h2 hx
    have HC1 : Hid (∀ i, i < n → ∃ r, w.cell? ⟨b1, off1 + i, none⟩ = some r ∧ IsInts w r (xss.getD i [])) := hc1
    have HC2 : Hid (∀ i, i < n → ∃ r, w.cell? ⟨b2, off2 + i, none⟩ = some r ∧ IsInts w r (xss.getD i [])) := hc2
    clear hc1 hc2 h1 h2 hx
    go_enter Try.func22, Try.ntmps22
    go_wp2
    go_loopw [5] (fun i wr => ∃ k : Nat, k ≤ n ∧ i = .int .i64 k ∧ ∃ m, wr = w.drewN m) (fun i _ => n - (intOf i).toNat)
    case atStart => exact ⟨0, Nat.zero_le _, rfl, 0, rfl⟩
    case round =>
      obtain ⟨k, hk, rfl, hwr⟩ := hrel
      by_cases hlt : k < n
      · obtain ⟨r1, hd1, hi1⟩ : ∃ r, wr.cell? ⟨b1, off1 + k, none⟩ = some r ∧ IsInts wr r (xss.getD k []) := by obtain ⟨m, rfl⟩ := hwr; exact HC1.out k hlt
        obtain ⟨r2, hd2, hi2⟩ : ∃ r, wr.cell? ⟨b2, off2 + k, none⟩ = some r ∧ IsInts wr r (xss.getD k []) := by obtain ⟨m, rfl⟩ := hwr; exact HC2.out k hlt
        have hm := HW.out k hlt
        have HWR : Hid (∃ m, wr = w.drewN m) := hwr
        clear hwr
        generalize xss.getD k [] = ys at *
        have HI1 : Hid (IsInts wr r1 ys) := hi1
        have HI2 : Hid (IsInts wr r2 ys) := hi2
        obtain ⟨a1, c1, rfl, _⟩ := hi1
        obtain ⟨a2, c2, rfl, _⟩ := hi2
        have HM : Hid (ys.length ≤ maxLen) := hm
        clear hm
        go_wp2
        go_quiet ((go_at_call 29; exact Calls.quiet_of (eqIntS_same _ _ _ _ (HI1.out.drewN _) (HI2.out.drewN _) HM.out)))
        go_wp2
        go_roundw
        case rel => exact ⟨k + 1, by omega, by go_num, drewN_more HWR.out _⟩
        case measure => simp [intOf]; omega
      · have HWR : Hid (∃ m, wr = w.drewN m) := hwr
        clear hwr
        go_wp2
        go_ret
        exact ⟨rfl, HWR.out⟩
  · clear h1 h2
    go_enter Try.func22, Try.ntmps22
    go_wp2
    go_rounds 1
    go_ret
    exact ⟨rfl, 0, rfl⟩

set_option maxHeartbeats 1000000 in
theorem eqCnf_same (vars : Int) (v1 v2 : Value) (xss : List (List Int)) (w : World) (h1 : IsRows w v1 xss) (h2 : IsRows w v2 xss) (hn : xss.length + sumLen xss ≤ 1048576) :
    Calls Try.prog 10 #[.agg #[.int .i64 vars, v1], .agg #[.int .i64 vars, v2]] w fun e w' => e = .returned (.bool true) ∧ Below w.heap.size w w' := by
  have HV1 : Hid (∀ w', Below w.heap.size w w' → IsRows w' v1 xss) := fun w' h => h1.below h
  have HV2 : Hid (∀ w', Below w.heap.size w w' → IsRows w' v2 xss) := fun w' h => h2.below h
  obtain ⟨ao1, cap1, rfl, _⟩ := h1
  obtain ⟨ao2, cap2, rfl, _⟩ := h2
  have hb : ∀ o1 o2, Below w.heap.size w ((w.alloc o1).alloc o2) := fun o1 o2 => ((Below.refl _ _).alloc (Nat.le_refl _) _).alloc (by simp) _
  have HB : Hid (∀ o1 o2, Below w.heap.size w ((w.alloc o1).alloc o2)) := hb
  clear hb
  go_enter Try.func10, Try.ntmps10
  go_wp2_with (go_at_call 22; refine (eqIntSS_same _ _ xss _ (HV1.out _ (HB.out _ _)) (HV2.out _ (HB.out _ _)) hn).mono ?_; rintro e w' ⟨rfl, m, rfl⟩)
  go_ret
  exact ⟨rfl, below_drewN (HB.out _ _) _⟩

end Go.Proofs.Ytidkijffdgdnlaa
