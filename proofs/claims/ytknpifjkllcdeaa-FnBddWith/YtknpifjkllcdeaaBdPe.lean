/-
  A diagram with a variable told, how many ways: plain facts.
-/
import Derived.Test.YtknpifjkllcdeaaBdPc
import Derived.Test.YtknpifjkllcdeaaBdY
namespace Go.Proofs.Ytknpifjkllcdeaa
set_option linter.unusedVariables false

/-- Ways with a variable so, and not so, are twice all ways. -/
theorem cnt_set : ∀ (n v : Nat) (g : List Bool → Bool), v < n → cntW n (fun ws => g (ws.set v true)) + cntW n (fun ws => g (ws.set v false)) = 2 * cntW n g := by
  intro n
  induction n with
  | zero => intro v g h; omega
  | succ n ih =>
    intro v g h
    match v with
    | 0 =>
      show cntW n (fun ws => g (true :: ws)) + cntW n (fun ws => g (true :: ws)) + (cntW n (fun ws => g (false :: ws)) + cntW n (fun ws => g (false :: ws))) = 2 * (cntW n (fun ws => g (false :: ws)) + cntW n (fun ws => g (true :: ws)))
      omega
    | v + 1 =>
      have h1 := ih v (fun ws => g (false :: ws)) (by omega)
      have h2 := ih v (fun ws => g (true :: ws)) (by omega)
      show cntW n (fun ws => g (false :: ws.set v true)) + cntW n (fun ws => g (true :: ws.set v true)) + (cntW n (fun ws => g (false :: ws.set v false)) + cntW n (fun ws => g (true :: ws.set v false))) = 2 * (cntW n (fun ws => g (false :: ws)) + cntW n (fun ws => g (true :: ws)))
      omega

/-- What is drawn of a table: small numbers, in its form. -/
theorem draw_fit {V : Nat} {t : List Bool} (h6 : V ≤ 6) : (∀ p ∈ (drawB V 0 t []).1, FitN p) ∧ (drawB V 0 t []).1.length ≤ 64 ∧ 0 ≤ (drawB V 0 t []).2 ∧ (drawB V 0 t []).2 ≤ 65 := by
  have hp : 2 ^ V ≤ 64 := by show _ ≤ 2 ^ 6; exact Nat.pow_le_pow_right (by decide) h6
  have hl := drawB_len V 0 t []
  simp only [List.length_nil] at hl
  exact ⟨drawB_fits V 0 _ [] (by omega) (by simp only [List.length_nil]; omega) (by simp), by omega, by omega, by omega⟩
theorem fit64n {q : Nd} (h : FitN q) : I64N q := by obtain ⟨⟨a, b⟩, ⟨c, d⟩, e, g⟩ := h; unfold I64N I64; omega

theorem withT_len (V : Nat) (ns : List Nd) (root : Int) (v : Nat) (so : Bool) : (withT (V : Int) ns root (v : Int) so).length = 2 ^ V := by rw [withT_eq, tabF_length]

/-- How many ways the diagram of a table has. -/
theorem countZ_draw {V : Nat} {t : List Bool} (h6 : V ≤ 6) (ht : t.length = 2 ^ V) : countZ (V : Int) (drawB V 0 t []).1 (drawB V 0 t []).2 = ((t.count true : Nat) : Int) := by
  unfold countZ
  rw [if_pos (bdd_draw V t h6 ht), Int.toNat_natCast, cnt_tab, tab_draw V t ht]

theorem count_two {V v : Nat} {ns : List Nd} {root : Int} (h6 : V ≤ 6) (h : bddB (V : Int) ns root = true) (hv : v < V) :
    countZ (V : Int) (drawB V 0 (withT (V : Int) ns root (v : Int) true) []).1 (drawB V 0 (withT (V : Int) ns root (v : Int) true) []).2 + countZ (V : Int) (drawB V 0 (withT (V : Int) ns root (v : Int) false) []).1 (drawB V 0 (withT (V : Int) ns root (v : Int) false) []).2 = 2 * countZ (V : Int) ns root := by
  rw [countZ_draw h6 (withT_len _ _ _ _ _), countZ_draw h6 (withT_len _ _ _ _ _)]
  have hc : ∀ so, (withT (V : Int) ns root (v : Int) so).count true = cntW V (fun ws => isN ns root (ws.set v so)) := fun so => by
    rw [withT_eq, ← count_cnt]
    rfl
  have := cnt_set V v (isN ns root) hv
  rw [hc, hc]
  unfold countZ
  rw [if_pos h, Int.toNat_natCast]
  omega

/-- A diagram that is not in its form has no number of ways. -/
theorem count_neg {vi : Int} {ns : List Nd} {root : Int} (h : ¬ countZ vi ns root < 0) : bddB vi ns root = true := by
  cases hb : bddB vi ns root with
  | true => rfl
  | false =>
    exfalso
    apply h
    unfold countZ
    rw [hb]
    exact of_decide_eq_true rfl

theorem countZ_tab {V : Nat} {ns : List Nd} {root : Int} (h : bddB (V : Int) ns root = true) : countZ (V : Int) ns root = (((tabN V ns root).count true : Nat) : Int) := by
  unfold countZ
  rw [if_pos h, Int.toNat_natCast, cnt_tab]

theorem take_count (T : List Bool) (j : Nat) (h : j < T.length) : (T.take (j + 1)).count true = (T.take j).count true + (if T.getD j false = true then 1 else 0) := by
  rw [List.take_succ_eq_append_getElem h, List.count_append, List.getD, List.getElem?_eq_getElem h]
  cases T[j] <;> simp

theorem count_small {V : Nat} {ns : List Nd} {root : Int} (h6 : V ≤ 6) (h : bddB (V : Int) ns root = true) : 0 ≤ countZ (V : Int) ns root ∧ countZ (V : Int) ns root ≤ 64 := by
  have hp : 2 ^ V ≤ 64 := by show _ ≤ 2 ^ 6; exact Nat.pow_le_pow_right (by decide) h6
  have := cnt_le V (isN ns root)
  unfold countZ
  rw [if_pos h, Int.toNat_natCast]
  omega

end Go.Proofs.Ytknpifjkllcdeaa
