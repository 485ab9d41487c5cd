/-
  The model's l2Next and l2Model: the plain functions of lists.
-/
import Derived.Test.YtepamfkbeccmaaaUnits2
import Derived.Test.YtepamfkbeccmaaaHolds2
namespace Go.Proofs.Ytepamfkbeccmaaa
open Go.RowKit Go.Deep
set_option linter.unusedVariables false

theorem nextL_hit {told : List Int} {n k : Nat} (h1 : told.contains (k : Int) = false) (h2 : told.contains (-(k : Int)) = false) : nextL told (n + 1) k = (k : Int) := by simp only [nextL]; rw [if_pos ⟨h1, h2⟩]
theorem nextL_skip {told : List Int} {n k : Nat} (h : told.contains (k : Int) = true ∨ told.contains (-(k : Int)) = true) : nextL told (n + 1) k = nextL told n (k + 1) := by
  simp only [nextL]
  rw [if_neg]
  intro h'
  rcases h with h | h
  · rw [h] at h'; simp at h'
  · rw [h] at h'; simp at h'

/-- What is found is a variable of which nothing is told. -/
theorem nextL_is (told : List Int) : ∀ (n k : Nat), nextL told n k ≠ 0 → (∃ j : Nat, nextL told n k = (j : Int) ∧ k ≤ j ∧ j < k + n ∧ told.contains (j : Int) = false ∧ told.contains (-(j : Int)) = false)
  | 0, k, h => by simp [nextL] at h
  | n + 1, k, h => by
    by_cases hc : told.contains (k : Int) = false ∧ told.contains (-(k : Int)) = false
    · exact ⟨k, nextL_hit hc.1 hc.2, Nat.le_refl _, by omega, hc.1, hc.2⟩
    · have hs : nextL told (n + 1) k = nextL told n (k + 1) := by simp only [nextL]; rw [if_neg hc]
      rw [hs] at h
      obtain ⟨j, e, h1, h2, h3⟩ := nextL_is told n (k + 1) h
      exact ⟨j, hs.trans e, by omega, by omega, h3⟩

set_option maxHeartbeats 1000000 in
theorem l2Next_any (v : Value) (told : List Int) (vars : Nat) (w : World) (hv : IsInts w v told) (hn : told.length ≤ maxLen) (h60 : vars ≤ 60) :
    Calls Try.prog 30 #[.int .i64 vars, v] w fun e w' => e = .returned (.int .i64 (nextL told vars 1)) ∧ w' = w := by
  have HV : Hid (IsInts w v told) := hv
  have HN : Hid (told.length ≤ maxLen) := hn
  obtain ⟨ao, cap, rfl, _⟩ := hv
  obtain ⟨r, hr⟩ : ∃ r, nextL told vars 1 = r := ⟨_, rfl⟩
  rw [hr]
  have HR : Hid (nextL told vars 1 = r) := hr
  clear hr hn
  go_enter Try.func30, Try.ntmps30
  go_wp2
  go_loop [5] (fun i => ∃ k : Nat, 1 ≤ k ∧ k ≤ vars + 1 ∧ i = .int .i64 k ∧ Hid (nextL told (vars + 1 - k) k = r)) (fun i => vars + 1 - (intOf i).toNat)
  case atStart => exact ⟨1, Nat.le_refl _, by omega, rfl, HR.out⟩
  case round =>
    obtain ⟨k, hk1, hk, rfl, hall⟩ := hrel
    by_cases hlt : k ≤ vars
    · have hsub : vars + 1 - k = (vars + 1 - (k + 1)) + 1 := by omega
      have hall' := hall.out
      rw [hsub] at hall'
      clear hsub hall
      cases c1 : told.contains (k : Int) with
      | true =>
        have HT : Hid (nextL told (vars + 1 - (k + 1)) (k + 1) = r) := by rw [nextL_skip (.inl c1)] at hall'; exact hall'
        have C1 : Hid (told.contains (k : Int) = true) := c1
        clear c1 hall'
        go_wp2_with fail
        refine (l1Has_any _ told _ _ HV.out HN.out).mono ?_
        rintro e w' ⟨rfl, rfl⟩
        rw [C1.out]
        go_wp2
        go_round
        case rel => exact ⟨k + 1, by omega, by omega, by go_num, HT⟩
        case measure => simp [intOf]; omega
      | false =>
        have C1 : Hid (told.contains (k : Int) = false) := c1
        cases c2 : told.contains (-(k : Int)) with
        | true =>
          have HT : Hid (nextL told (vars + 1 - (k + 1)) (k + 1) = r) := by rw [nextL_skip (.inr c2)] at hall'; exact hall'
          have C2 : Hid (told.contains (-(k : Int)) = true) := c2
          clear c1 c2 hall'
          go_wp2_with fail
          refine (l1Has_any _ told _ _ HV.out HN.out).mono ?_
          rintro e w' ⟨rfl, rfl⟩
          rw [C1.out]
          go_wp2_with fail
          refine (l1Has_any _ told _ _ HV.out HN.out).mono ?_
          rintro e w' ⟨rfl, rfl⟩
          rw [C2.out]
          go_wp2
          go_round
          case rel => exact ⟨k + 1, by omega, by omega, by go_num, HT⟩
          case measure => simp [intOf]; omega
        | false =>
          have HT : Hid ((k : Int) = r) := by rw [nextL_hit c1 c2] at hall'; exact hall'
          have C2 : Hid (told.contains (-(k : Int)) = false) := c2
          clear c1 c2 hall'
          go_wp2_with fail
          refine (l1Has_any _ told _ _ HV.out HN.out).mono ?_
          rintro e w' ⟨rfl, rfl⟩
          rw [C1.out]
          go_wp2_with fail
          refine (l1Has_any _ told _ _ HV.out HN.out).mono ?_
          rintro e w' ⟨rfl, rfl⟩
          rw [C2.out]
          go_wp2
          go_ret
          exact ⟨ret_int HT.out, rfl⟩
    · have HT : Hid (0 = r) := by
        have h := hall.out
        rw [show vars + 1 - k = 0 by omega] at h
        exact h
      clear hall
      go_wp2
      go_ret
      exact ⟨ret_int HT.out, rfl⟩

def modelL (vars : Nat) (told : List Int) : List Bool := (List.range vars).map (fun (i : Nat) => told.contains ((i : Int) + 1))

theorem modelL_length (vars : Nat) (told : List Int) : (modelL vars told).length = vars := by simp [modelL]
theorem modelL_getD (vars : Nat) (told : List Int) (i : Nat) (h : i < vars) : (modelL vars told).getD i false = told.contains ((i : Int) + 1) := by simp [modelL, List.getD, h]

/-- Of the model, so many told literals are in. -/
def mpart (told : List Int) (k : Nat) : Nat → Value := fun i => .bool ((told.take k).contains ((i : Int) + 1))

theorem mpart_neg {told : List Int} {k : Nat} (h : k < told.length) (hx : told.getD k 0 ≤ 0) (i : Nat) : mpart told (k + 1) i = mpart told k i := by
  unfold mpart
  rw [contains_take_succ told _ k h]
  have : (((i : Int) + 1) == told.getD k 0) = false := beq_eq_false_iff_ne.2 (by omega)
  rw [this, Bool.or_false]

theorem mpart_set {w : World} {b : Nat} {t : TypeId} {n : Nat} {told : List Int} {k j : Nat} (h : k < told.length) (hx : told.getD k 0 = (j : Int) + 1) (hr : w.rowIs b t n (mpart told k)) : (w.setCell ⟨b, j, none⟩ (.bool true)).rowIs b t n (mpart told (k + 1)) := by
  refine (hr.set j _).congr (fun i _ => ?_)
  unfold mpart
  rw [contains_take_succ told _ k h, hx]
  by_cases e : i = j
  · subst e; simp
  · rw [if_neg e]
    have : (((i : Int) + 1) == ((j : Int) + 1)) = false := beq_eq_false_iff_ne.2 (by omega)
    rw [this, Bool.or_false]

set_option maxHeartbeats 1000000 in
theorem l2Model_any (v : Value) (told : List Int) (vars : Nat) (w : World) (hv : IsInts w v told) (hn : told.length ≤ maxLen) (h60 : vars ≤ 60) (hl : ∀ x ∈ told, litB vars x = true) :
    Calls Try.prog 23 #[.int .i64 vars, v] w fun e w' => e = .returned (.slice (some ⟨w.heap.size, 0, none⟩) vars vars) ∧ Below w.heap.size w w' ∧ w'.rowIs w.heap.size 4 vars (mpart told told.length) := by
  obtain ⟨ao, cap, rfl, hv⟩ := hv
  have hmk := run_make_row' (P := Try.prog) 26 4 (.bool false) 1 Try.underlying26 info_bool rfl .i64 .i64 vars (by omega) (by omega)
  have HLIT : Hid (∀ i, i < told.length → litB vars (told.getD i 0) = true) := fun i hi => hl _ (by rw [List.getD, List.getElem?_eq_getElem hi]; simp)
  clear hl
  generalize hN : told.length = n at *
  unfold maxLen at hn
  have HN : Hid (told.length = n) := hN
  clear hN
  have hA : Hid (((w.alloc (.cells (madeCells #[.bool false] vars) 4)).rowIs w.heap.size 4 vars (mpart told 0))) := (World.rowIs_made w _ vars 4).congr (fun j _ => by simp [mpart])
  by_cases hne : 0 < n
  · obtain ⟨b, off, rfl, hc⟩ := hv (by intro e; have := HN.out; subst e; simp at this; omega)
    have HC : Hid (∀ i, i < n → w.cell? ⟨b, off + i, none⟩ = some (.int .i64 (told.getD i 0))) := hc
    clear hc hv
    go_enter Try.func23, Try.ntmps23
    go_wp2
    go_loopw [6] (fun i wr => ∃ k : Nat, k ≤ n ∧ i = .int .i64 k ∧ Below w.heap.size w wr ∧ wr.rowIs w.heap.size 4 vars (mpart told k)) (fun i _ => n - (intOf i).toNat)
    case atStart => exact ⟨0, Nat.zero_le _, rfl, belOne _ _, hA.out⟩
    case round =>
      obtain ⟨k, hk, rfl, hb, hrow⟩ := hrel
      by_cases hlt : k < n
      · have hcell := HC.out k hlt
        have hc1 : wr.cell? ⟨b, off + k, none⟩ = some (.int .i64 (told.getD k 0)) := (hb.cell (cell_lt hcell)).trans hcell
        have hlt' : k < told.length := by rw [HN.out]; exact hlt
        obtain ⟨l1, l2, l3⟩ := litB_iff.1 (HLIT.out k hlt)
        have HB : Hid (Below w.heap.size w wr) := hb
        by_cases hpos : 0 < told.getD k 0
        · obtain ⟨j, hj⟩ : ∃ j : Nat, told.getD k 0 = (j : Int) + 1 := ⟨(told.getD k 0 - 1).toNat, by omega⟩
          have hjv : j < vars := by omega
          have hc2 := hrow.cell hjv
          have hfz := hrow.frozen j
          have HST : Hid ((wr.setCell ⟨w.heap.size, j, none⟩ (.bool true)).rowIs w.heap.size 4 vars (mpart told (k + 1))) := mpart_set hlt' hj hrow
          rw [hj] at hc1
          clear hcell hrow hb hlt' hpos l1 l2 l3 hj
          generalize mpart told k j = old at *
          go_wp2
          go_roundw
          case rel => exact ⟨k + 1, by omega, by go_num, HB.out.setCell (Nat.le_refl _) _, HST.out⟩
          case measure => simp [intOf]; omega
        · have HST : Hid (wr.rowIs w.heap.size 4 vars (mpart told (k + 1))) := hrow.congr (fun i _ => (mpart_neg hlt' (by omega) i).symm)
          generalize told.getD k 0 = x at *
          clear hcell hrow hb hlt'
          go_wp2
          go_roundw
          case rel => exact ⟨k + 1, by omega, by go_num, HB.out, HST.out⟩
          case measure => simp [intOf]; omega
      · obtain rfl : k = n := by omega
        go_wp2
        go_ret
        exact ⟨rfl, hb, hrow⟩
  · obtain rfl : told = [] := List.length_eq_zero_iff.1 (by have := HN.out; omega)
    clear hv
    go_enter Try.func23, Try.ntmps23
    go_wp2
    go_rounds 1
    go_ret
    exact ⟨rfl, belOne _ _, hA.out.congr (fun i _ => by simp [mpart])⟩

theorem isBools_model {w : World} {b vars : Nat} {told : List Int} (h : w.rowIs b 4 vars (mpart told told.length)) : IsBools w (.slice (some ⟨b, 0, none⟩) vars vars) (modelL vars told) := by
  refine ⟨some ⟨b, 0, none⟩, vars, by rw [modelL_length], fun _ => ⟨b, 0, rfl, fun i hi => ?_⟩⟩
  rw [modelL_length] at hi
  rw [Nat.zero_add, h.cell hi, modelL_getD _ _ _ hi]
  unfold mpart
  rw [List.take_length]

end Go.Proofs.Ytepamfkbeccmaaa
