/-
  Diagrams, rows of numbers compared by the laws; is a number in a row: rgBdd, rgInts, rgHas.
-/
import Derived.Test.YtknpifjkllcdeaaBdZ
import Derived.Test.YtknpifjkllcdeaaRowI
import Derived.Deep.QuietTactic
import Derived.BigQuiet
namespace Go.Proofs.Ytknpifjkllcdeaa
open Go.RowKit Go.Deep
set_option linter.unusedVariables false

attribute [local go_sem] Oper.semAt_some

set_option maxRecDepth 100000 in
set_option maxHeartbeats 8000000 in
theorem rgBdd_any (vars r1 r2 : Int) (a1 a2 : Option Addr) (n1 n2 c1 c2 : Nat) (l1 l2 : List Nd) (w : World) (h1 : Nds w a1 n1 c1 l1) (h2 : Nds w a2 n2 c2 l2) (f1 : ∀ p ∈ l1, FitN p) (f2 : ∀ p ∈ l2, FitN p) (hn1 : n1 ≤ 100) (hn2 : n2 ≤ 100) :
    Calls Try.prog 34 #[.agg #[.int .i64 vars, .slice a1 n1 c1, .int .i64 r1], .agg #[.int .i64 vars, .slice a2 n2 c2, .int .i64 r2]] w fun e w' => e = .returned (.bool (decide (r1 = r2) && decide (l1 = l2))) ∧ Below w.heap.size w w' := by
  obtain ⟨W1, hW1⟩ : ∃ W1, W1 = (w.alloc (.cells #[.int .i64 vars, .slice a1 n1 c1, .int .i64 r1] 25)).alloc (.cells #[.int .i64 vars, .slice a2 n2 c2, .int .i64 r2] 25) := ⟨_, rfl⟩
  have HB1 : Hid (Below w.heap.size w W1) := by rw [hW1]; exact belNext (belOne _ _) (belOne _ _)
  have hA : BlkD W1 w.heap.size (.int .i64 vars) (.slice a1 n1 c1) (.int .i64 r1) := by rw [hW1]; exact (BlkD.new _ _ _ _).below (belOne _ _)
  have hB : BlkD W1 (w.heap.size + 1) (.int .i64 vars) (.slice a2 n2 c2) (.int .i64 r2) := by
    rw [hW1]
    have h := BlkD.new (w.alloc (.cells #[.int .i64 vars, .slice a1 n1 c1, .int .i64 r1] 25)) (.int .i64 vars) (.slice a2 n2 c2) (.int .i64 r2)
    rw [World.size_alloc] at h
    exact h
  have H1 := hideN (h1.below HB1.out)
  have H2 := hideN (h2.below HB1.out)
  have F1 := hideN f1
  have F2 := hideN f2
  have HW1 := hideN hW1
  have x0 := hA.c0
  have x1 := hA.c1
  have x2 := hA.c2
  have x3 := hA.lt
  have y0 := hB.c0
  have y1 := hB.c1
  have y2 := hB.c2
  have y3 := hB.lt
  clear h1 h2 hA hB hW1 f1 f2
  by_cases hr : r1 = r2
  case neg =>
    have e0 : (r1 == r2) = false := by simpa using hr
    rw [decide_eq_false hr]
    go_enter Try.func34, Try.ntmps34
    go_wp2_with fail
    try (rw [← HW1.out]; go_wp2_with fail)
    go_ret
    exact ⟨rfl, by first | exact HB1.out | exact belNext (belOne _ _) (belOne _ _)⟩
  subst hr
  rw [decide_eq_true rfl, Bool.true_and]
  by_cases hn : n1 = n2
  case neg =>
    have e0 : ((n1 : Int) == (n2 : Int)) = false := by simp; omega
    have hd : decide (l1 = l2) = false := decide_eq_false (fun e => hn (by rw [← H1.out.len, ← H2.out.len, e]))
    rw [hd]
    go_enter Try.func34, Try.ntmps34
    go_wp2_with fail
    try (rw [← HW1.out]; go_wp2_with fail)
    go_ret
    exact ⟨rfl, by first | exact HB1.out | exact belNext (belOne _ _) (belOne _ _)⟩
  subst hn
  go_enter Try.func34, Try.ntmps34
  go_wp2_with fail
  rw [← HW1.out]
  go_loopw [5] (fun i wr => ∃ j : Nat, j ≤ n1 ∧ i = .int .i64 j ∧ Hid (∀ q, q < j → l1.getD q (0, 0, 0) = l2.getD q (0, 0, 0)) ∧ ∃ q, wr = W1.drewN q) (fun i _ => n1 - (intOf i).toNat)
  case atStart => exact ⟨0, Nat.zero_le _, rfl, fun q hq => by omega, 0, rfl⟩
  case round =>
    obtain ⟨j, hj, rfl, hall, q, rfl⟩ := hrel
    have HBE : Hid (∀ n, Below w.heap.size w (W1.drewN n)) := fun n => HB1.out.trans ((below_drewN (Below.refl _ _) n).mono HB1.out.size)
    by_cases hlt : j < n1
    · obtain ⟨b1, off1, ha1, hc1⟩ := H1.out.cells (by omega)
      obtain ⟨b2, off2, ha2, hc2⟩ := H2.out.cells (by omega)
      subst ha1
      subst ha2
      obtain ⟨u0, u1, u2⟩ := hc1 j hlt
      obtain ⟨v0, v1, v2⟩ := hc2 j hlt
      have hf1 := F1.out _ (getD_mem_nd2 (l := l1) (i := j) (by have := H1.out.len; omega))
      have hf2 := F2.out _ (getD_mem_nd2 (l := l2) (i := j) (by have := H2.out.len; omega))
      by_cases he : l1.getD j (0, 0, 0) = l2.getD j (0, 0, 0)
      · have HE := hideN he
        rw [he] at u0 u1 u2
        have heq := fun W => nd_neq_same (l2.getD j (0, 0, 0)) hf2 W
        simp only [ndOf] at heq
        clear he hc1 hc2 hf1 hf2
        generalize (l2.getD j (0, 0, 0)).1 = p0 at *
        generalize (l2.getD j (0, 0, 0)).2.1 = p1 at *
        generalize (l2.getD j (0, 0, 0)).2.2 = p2 at *
        go_wp2_with fail
        go_quiet (fail)
        go_wp2_with fail
        go_roundw
        case rel =>
          refine ⟨j + 1, by omega, by go_num, fun i hi => ?_, _, rfl⟩
          by_cases e : i = j
          · subst e; exact HE.out
          · exact hall.out i (by omega)
        case measure => simp [intOf]; omega
      · have heq := fun W => nd_neq_diff hf1 hf2 he W
        simp only [ndOf] at heq
        have HD : Hid (decide (l1 = l2) = false) := decide_eq_false (fun e => he (by rw [e]))
        clear he hc1 hc2 hf1 hf2
        generalize (l1.getD j (0, 0, 0)).1 = p0 at *
        generalize (l1.getD j (0, 0, 0)).2.1 = p1 at *
        generalize (l1.getD j (0, 0, 0)).2.2 = p2 at *
        generalize (l2.getD j (0, 0, 0)).1 = r0 at *
        generalize (l2.getD j (0, 0, 0)).2.1 = r1' at *
        generalize (l2.getD j (0, 0, 0)).2.2 = r2 at *
        go_wp2_with fail
        go_quiet (fail)
        go_wp2_with fail
        go_ret
        exact ⟨by rw [HD.out]; rfl, by rw [World.drewN_drewN]; exact HBE.out _⟩
    · obtain rfl : j = n1 := by omega
      have HD : Hid (decide (l1 = l2) = true) := decide_eq_true (nd_ext (by rw [H1.out.len, H2.out.len]) (fun i hi => hall.out i (by have := H1.out.len; omega)))
      go_wp2_with fail
      go_ret
      exact ⟨by rw [HD.out]; rfl, HBE.out _⟩

set_option maxHeartbeats 1000000 in
theorem rgInts_same (v1 v2 : Value) (xs : List Int) (w : World) (h1 : IsInts w v1 xs) (h2 : IsInts w v2 xs) (hn : xs.length ≤ maxLen) :
    Calls Try.prog 59 #[v1, v2] w fun e w' => e = .returned (.bool true) ∧ ∃ n, w' = w.drewN n := by
  obtain ⟨ao1, cap1, rfl, h1⟩ := h1
  obtain ⟨ao2, cap2, rfl, h2⟩ := h2
  generalize hN : xs.length = n at *
  unfold maxLen at hn
  have HN : Hid (xs.length = n) := hN
  clear hN
  by_cases hne : 0 < n
  · have hx : xs ≠ [] := by intro e; have := HN.out; subst e; simp at this; omega
    obtain ⟨b1, off1, rfl, hc1⟩ := h1 hx
    obtain ⟨b2, off2, rfl, hc2⟩ := h2 hx
    have HC1 : Hid (∀ i, i < n → w.cell? ⟨b1, off1 + i, none⟩ = some (.int .i64 (xs.getD i 0))) := hc1
    have HC2 : Hid (∀ i, i < n → w.cell? ⟨b2, off2 + i, none⟩ = some (.int .i64 (xs.getD i 0))) := hc2
    clear hc1 hc2 h1 h2 hx
    go_enter Try.func59, Try.ntmps59
    go_wp2
    go_loopw [5] (fun i wr => ∃ k : Nat, k ≤ n ∧ i = .int .i64 k ∧ ∃ m, wr = w.drewN m) (fun i _ => n - (intOf i).toNat)
    case atStart => exact ⟨0, Nat.zero_le _, rfl, 0, rfl⟩
    case round =>
      obtain ⟨k, hk, rfl, m, rfl⟩ := hrel
      by_cases hlt : k < n
      · have hd1 := HC1.out k hlt
        have hd2 := HC2.out k hlt
        generalize xs.getD k 0 = x at *
        go_wp2
        go_quiet (fail)
        go_wp2
        go_roundw
        case rel => exact ⟨k + 1, by omega, by go_num, _, rfl⟩
        case measure => simp [intOf]; omega
      · go_wp2
        go_ret
        exact ⟨rfl, _, rfl⟩
  · clear h1 h2
    go_enter Try.func59, Try.ntmps59
    go_wp2
    go_rounds 1
    go_ret
    exact ⟨rfl, 0, rfl⟩

theorem any_has {L : List Int} {k : Nat} {x : Int} (h : k < L.length) (hx : L.getD k 0 = x) : decide (x ∈ L) = true := by
  rw [decide_eq_true_eq, ← hx, List.getD, List.getElem?_eq_getElem h]
  simp
theorem none_has {L : List Int} {x : Int} (h : ∀ k, k < L.length → L.getD k 0 ≠ x) : decide (x ∈ L) = false := by
  rw [decide_eq_false_iff_not]
  intro hm
  obtain ⟨i, hi, e⟩ := List.mem_iff_getElem.1 hm
  have := h i hi
  rw [List.getD, List.getElem?_eq_getElem hi] at this
  exact this (by simpa using e)

set_option maxHeartbeats 1000000 in
theorem rgHas_any (v : Value) (L : List Int) (x : Int) (w : World) (h : IsInts w v L) (hn : L.length ≤ 1000) :
    Calls Try.prog 52 #[v, .int .i64 x] w fun e w' => e = .returned (.bool (decide (x ∈ L))) ∧ w' = w := by
  obtain ⟨ao, cap, rfl, h⟩ := h
  obtain ⟨n, hN⟩ : ∃ n, L.length = n := ⟨_, rfl⟩
  obtain ⟨r, hr⟩ : ∃ r, decide (x ∈ L) = r := ⟨_, rfl⟩
  have HC : Hid (∀ k, k < n → ∃ b off, ao = some ⟨b, off, none⟩ ∧ w.cell? ⟨b, off + k, none⟩ = some (.int .i64 (L.getD k 0))) := fun k hk => by
    obtain ⟨b, off, ha, hc⟩ := h (by intro e; rw [e] at hN; simp at hN; omega)
    exact ⟨b, off, ha, hc k (by omega)⟩
  have HN := hideN hN
  have HR := hideN hr
  rw [hN] at hn ⊢
  rw [hr]
  clear h hN hr
  go_enter Try.func52, Try.ntmps52
  go_wp2_with fail
  go_loopw [5] (fun i wr => ∃ k : Nat, k ≤ n ∧ i = .int .i64 (k : Int) ∧ Hid (∀ j, j < k → L.getD j 0 ≠ x) ∧ wr = w) (fun i _ => n - (intOf i).toNat)
  case atStart => exact ⟨0, Nat.zero_le _, rfl, fun j hj => by omega, rfl⟩
  case round =>
    obtain ⟨k, hk, rfl, hno, rfl⟩ := hrel
    by_cases hlt : k < n
    · obtain ⟨b, off, hao, hc⟩ := HC.out k hlt
      subst hao
      obtain ⟨y, hy⟩ : ∃ y, L.getD k 0 = y := ⟨_, rfl⟩
      rw [hy] at hc
      by_cases hyx : y = x
      · subst hyx
        have HT : Hid (r = true) := by show _ = _; rw [← HR.out]; exact any_has (by have := HN.out; omega) hy
        clear hy
        go_wp2_with fail
        go_ret
        exact ⟨by rw [HT.out]; rfl, rfl⟩
      · have HST : Hid (∀ j, j < k + 1 → L.getD j 0 ≠ x) := fun j hj => by
          by_cases e : j = k
          · subst e; rw [hy]; exact hyx
          · exact hno.out j (by omega)
        clear hy
        go_wp2
        go_roundw
        case rel => exact ⟨k + 1, by omega, by go_num, HST, by first | rfl | trivial⟩
        case measure => simp [intOf]; omega
    · obtain rfl : k = n := by omega
      have HT : Hid (r = false) := by show _ = _; rw [← HR.out]; exact none_has (by rw [HN.out]; exact hno.out)
      go_wp2_with fail
      go_ret
      exact ⟨by rw [HT.out]; rfl, rfl⟩

end Go.Proofs.Ytknpifjkllcdeaa
