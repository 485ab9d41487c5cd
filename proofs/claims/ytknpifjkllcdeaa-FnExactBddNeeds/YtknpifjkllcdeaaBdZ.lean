/-
  Diagrams: whether two rows of nodes are the same, by the program and by the model.
-/
import Derived.Test.YtknpifjkllcdeaaBdN
namespace Go.Proofs.Ytknpifjkllcdeaa
open Go.RowKit Go.Deep
set_option linter.unusedVariables false

attribute [local go_sem] Oper.semAt_some

set_option maxRecDepth 100000 in
theorem nd_neq_diff {p q : Nd} (hp : FitN p) (hq : FitN q) (h : p ≠ q) (w : World) : (binOp .neq 50 (ndOf p) (ndOf q)).run Try.prog w = .ok (.bool true) w := by
  obtain ⟨r, hr, hiff⟩ := run_equal_deep (P := Try.prog) w (m := 3) (by decide) (k := 50) (by kernel_rfl) ndWide (keyOf_nd p hp) (keyOf_nd q hq)
  have hrf : r = false := by
    cases r with
    | false => rfl
    | true => exact absurd (keyN_inj hp hq (hiff.1 rfl)) h
  subst hrf
  simp only [ndOf] at hr ⊢
  simp only [binOp]
  simp [hr]

set_option maxRecDepth 100000 in
theorem nd_neq_same (p : Nd) (hp : FitN p) (w : World) : (binOp .neq 50 (ndOf p) (ndOf p)).run Try.prog w = .ok (.bool false) w := by
  obtain ⟨r, hr, hiff⟩ := run_equal_deep (P := Try.prog) w (m := 3) (by decide) (k := 50) (by kernel_rfl) ndWide (keyOf_nd p hp) (keyOf_nd p hp)
  have hrf : r = true := hiff.2 rfl
  subst hrf
  simp only [ndOf] at hr ⊢
  simp only [binOp]
  simp [hr]

theorem nd_ext {l1 l2 : List Nd} (h : l1.length = l2.length) (he : ∀ i, i < l1.length → l1.getD i (0, 0, 0) = l2.getD i (0, 0, 0)) : l1 = l2 := by
  refine List.ext_getElem h (fun i h1 h2 => ?_)
  have := he i h1
  simpa [List.getD, h1, h2] using this

theorem nds_row {w : World} {base n cap : Nat} {ao : Option Addr} {l : List Nd} (h : w.ownsRow base 50 3 (.slice ao n cap) n (ndV l)) (hn : l.length = n) : Nds w ao n cap l := by
  refine ⟨hn, ?_, fun hp => ?_⟩
  · rcases h.2 with ⟨h5, h6⟩ | ⟨g, cp, cur, h5, _, hh, hle, _⟩
    · omega
    · cases h5; exact hle
  · obtain ⟨g, c', h1, h2, h3⟩ := World.ownsRow.form h hp
    injection h1 with e1 e2 e3
    refine ⟨g, 0, e1, fun i hi => ?_⟩
    subst e1
    obtain ⟨q0, q1, q2⟩ := ndV_get l i (by omega)
    rw [Nat.zero_add]
    exact ⟨(World.ownsRow.cellAt h (i * 3) (by omega)).trans q0, (World.ownsRow.cellAt h (i * 3 + 1) (by omega)).trans q1, (World.ownsRow.cellAt h (i * 3 + 2) (by omega)).trans q2⟩

set_option maxRecDepth 100000 in
set_option maxHeartbeats 8000000 in
theorem equalNds_any (a1 a2 : Option Addr) (n1 n2 c1 c2 : Nat) (l1 l2 : List Nd) (w : World) (h1 : Nds w a1 n1 c1 l1) (h2 : Nds w a2 n2 c2 l2) (f1 : ∀ p ∈ l1, FitN p) (f2 : ∀ p ∈ l2, FitN p) (hn1 : n1 ≤ 100) (hn2 : n2 ≤ 100) :
    Calls Try.prog 83 #[.slice a1 n1 c1, .slice a2 n2 c2] w fun e w' => e = .returned (.bool (decide (l1 = l2))) ∧ ∃ q, w' = w.drewN q := by
  by_cases hn : n1 = n2
  case neg =>
    have e0 : ((n1 : Int) == (n2 : Int)) = false := by simp; omega
    have hd : decide (l1 = l2) = false := decide_eq_false (fun e => hn (by rw [← h1.len, ← h2.len, e]))
    rw [hd]
    clear h1 h2 f1 f2
    go_enter Try.func83, Try.ntmps83
    go_wp2_with fail
    go_ret
    exact ⟨rfl, 0, rfl⟩
  subst hn
  have H1 := hideN h1
  have H2 := hideN h2
  have F1 := hideN f1
  have F2 := hideN f2
  clear h1 h2 f1 f2
  go_enter Try.func83, Try.ntmps83
  go_wp2_with fail
  go_loopw [13] (fun i wr => ∃ j : Nat, j ≤ n1 ∧ i = .int .i64 j ∧ Hid (∀ q, q < j → l1.getD q (0, 0, 0) = l2.getD q (0, 0, 0)) ∧ ∃ q, wr = w.drewN q) (fun i _ => n1 - (intOf i).toNat)
  case atStart => exact ⟨0, Nat.zero_le _, rfl, fun q hq => by omega, 0, rfl⟩
  case round =>
    obtain ⟨j, hj, rfl, hall, q, rfl⟩ := hrel
    by_cases hlt : j < n1
    · obtain ⟨b1, off1, ha1, hc1⟩ := H1.out.cells (by omega)
      obtain ⟨b2, off2, ha2, hc2⟩ := H2.out.cells (by omega)
      subst ha1
      subst ha2
      obtain ⟨x0, x1, x2⟩ := hc1 j hlt
      obtain ⟨y0, y1, y2⟩ := hc2 j hlt
      have hf1 := F1.out _ (getD_mem_nd2 (l := l1) (i := j) (by have := H1.out.len; omega))
      have hf2 := F2.out _ (getD_mem_nd2 (l := l2) (i := j) (by have := H2.out.len; omega))
      by_cases he : l1.getD j (0, 0, 0) = l2.getD j (0, 0, 0)
      · have HE := hideN he
        rw [he] at x0 x1 x2
        have heq := fun W => nd_neq_same (l2.getD j (0, 0, 0)) hf2 W
        simp only [ndOf] at heq
        clear he hc1 hc2 hf1 hf2
        generalize (l2.getD j (0, 0, 0)).1 = p0 at *
        generalize (l2.getD j (0, 0, 0)).2.1 = p1 at *
        generalize (l2.getD j (0, 0, 0)).2.2 = p2 at *
        go_wp2_with fail
        go_quiet (fail)
        go_wp2_with fail
        go_roundw
        case rel =>
          refine ⟨j + 1, by omega, by go_num, fun i hi => ?_, _, rfl⟩
          by_cases e : i = j
          · subst e; exact HE.out
          · exact hall.out i (by omega)
        case measure => simp [intOf]; omega
      · have heq := fun W => nd_neq_diff hf1 hf2 he W
        simp only [ndOf] at heq
        have HD : Hid (decide (l1 = l2) = false) := decide_eq_false (fun e => he (by rw [e]))
        clear he hc1 hc2 hf1 hf2
        generalize (l1.getD j (0, 0, 0)).1 = p0 at *
        generalize (l1.getD j (0, 0, 0)).2.1 = p1 at *
        generalize (l1.getD j (0, 0, 0)).2.2 = p2 at *
        generalize (l2.getD j (0, 0, 0)).1 = r0 at *
        generalize (l2.getD j (0, 0, 0)).2.1 = r1 at *
        generalize (l2.getD j (0, 0, 0)).2.2 = r2 at *
        go_wp2_with fail
        go_quiet (fail)
        go_wp2_with fail
        go_ret
        exact ⟨by rw [HD.out]; rfl, _, World.drewN_drewN _ _ _⟩
    · obtain rfl : j = n1 := by omega
      have HD : Hid (decide (l1 = l2) = true) := decide_eq_true (nd_ext (by rw [H1.out.len, H2.out.len]) (fun i hi => hall.out i (by have := H1.out.len; omega)))
      go_wp2_with fail
      go_ret
      exact ⟨by rw [HD.out]; rfl, _, rfl⟩

end Go.Proofs.Ytknpifjkllcdeaa
