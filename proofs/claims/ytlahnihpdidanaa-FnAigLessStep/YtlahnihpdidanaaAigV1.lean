/-
  What the promise laws on circuits ask of nodes; truths compared by rgBools.
-/
import Derived.Test.YtlahnihpdidanaaCir6
import Derived.Test.YtlahnihpdidanaaAigValuesLaw
namespace Go.Proofs.Ytlahnihpdidanaa
open Go.RowKit Go.Deep
set_option linter.unusedVariables false

set_option maxHeartbeats 1000000 in
theorem rgBools_same (v1 v2 : Value) (ms : List Bool) (w : World) (h1 : IsBits w v1 ms) (h2 : IsBits w v2 ms) (hn : ms.length ≤ maxLen) :
    Calls Try.prog 46 #[v1, v2] w fun e w' => e = .returned (.bool true) ∧ ∃ n, w' = w.drewN n := by
  obtain ⟨ao1, cap1, rfl, h1⟩ := h1
  obtain ⟨ao2, cap2, rfl, h2⟩ := h2
  generalize hN : ms.length = n at *
  unfold maxLen at hn
  have HN : Hid (ms.length = n) := hN
  clear hN
  by_cases hne : 0 < n
  · have hx : ms ≠ [] := by intro e; have := HN.out; subst e; simp at this; omega
    obtain ⟨b1, off1, rfl, hc1⟩ := h1 hx
    obtain ⟨b2, off2, rfl, hc2⟩ := h2 hx
    have HC1 : Hid (∀ i, i < n → w.cell? ⟨b1, off1 + i, none⟩ = some (.bool (ms.getD i false))) := hc1
    have HC2 : Hid (∀ i, i < n → w.cell? ⟨b2, off2 + i, none⟩ = some (.bool (ms.getD i false))) := hc2
    clear hc1 hc2 h1 h2 hx
    go_enter Try.func46, Try.ntmps46
    go_wp2
    go_loopw [5] (fun i wr => ∃ k : Nat, k ≤ n ∧ i = .int .i64 k ∧ ∃ m, wr = w.drewN m) (fun i _ => n - (intOf i).toNat)
    case atStart => exact ⟨0, Nat.zero_le _, rfl, 0, rfl⟩
    case round =>
      obtain ⟨k, hk, rfl, m, rfl⟩ := hrel
      by_cases hlt : k < n
      · have hd1 := HC1.out k hlt
        have hd2 := HC2.out k hlt
        generalize ms.getD k false = x at *
        go_wp2
        go_quiet (fail)
        go_wp2
        go_roundw
        case rel => exact ⟨k + 1, by omega, by go_num, _, rfl⟩
        case measure => simp [intOf]; omega
      · go_wp2
        go_ret
        exact ⟨rfl, _, rfl⟩
  · clear h1 h2
    go_enter Try.func46, Try.ntmps46
    go_wp2
    go_rounds 1
    go_ret
    exact ⟨rfl, 0, rfl⟩

theorem rgBools_below (v1 v2 : Value) (ms : List Bool) (w : World) (h1 : IsBits w v1 ms) (h2 : IsBits w v2 ms) (hn : ms.length ≤ 100) :
    Calls Try.prog 46 #[v1, v2] w fun e w' => e = .returned (.bool true) ∧ Below w.heap.size w w' := by
  refine (rgBools_same v1 v2 ms w h1 h2 (by unfold maxLen; omega)).mono ?_
  rintro e w' ⟨rfl, n, rfl⟩
  exact ⟨rfl, below_drewN (Below.refl _ _) _⟩

theorem valF_get (start : List Bool) (xs : List (Int × Int)) (k n j : Nat) (hk : k ≤ n) (hn : n ≤ xs.length) (hj : j < start.length + k) : (valF start xs n).getD j false = (valF start xs k).getD j false := by
  induction n with
  | zero => obtain rfl : k = 0 := by omega
            rfl
  | succ n ih =>
    by_cases e : k = n + 1
    · subst e; rfl
    · have h1 := ih (by omega) (by omega)
      rw [← h1, valF_succ start xs n (by omega)]
      have hl := valF_length start xs n (by omega)
      rw [List.getD, List.getElem?_append_left (by omega)]
      rfl

theorem litV_congr {us vs : List Bool} {x : Int} (h : us.getD (x / 2).toNat false = vs.getD (x / 2).toNat false) : litV us x = litV vs x := by
  unfold litV; rw [h]

/-- Each and is both of what it means, in all nodes. -/
theorem valF_and (start : List Bool) (xs : List (Int × Int)) (k : Nat) (h : k < xs.length) (h1 : ((xs.getD k (0, 0)).1 / 2).toNat < start.length + k) (h2 : ((xs.getD k (0, 0)).2 / 2).toNat < start.length + k) :
    (valF start xs xs.length).getD (start.length + k) false = (litV (valF start xs xs.length) (xs.getD k (0, 0)).1 && litV (valF start xs xs.length) (xs.getD k (0, 0)).2) := by
  have hl := valF_length start xs k (by omega)
  rw [valF_get start xs (k + 1) xs.length (start.length + k) (by omega) (Nat.le_refl _) (by omega), valF_succ start xs k h]
  rw [litV_congr (valF_get start xs k xs.length _ (by omega) (Nat.le_refl _) h1), litV_congr (valF_get start xs k xs.length _ (by omega) (Nat.le_refl _) h2)]
  rw [List.getD, List.getElem?_append_right (by omega), hl]
  simp

theorem valF_start (start : List Bool) (xs : List (Int × Int)) (j : Nat) (hj : j < start.length) : (valF start xs xs.length).getD j false = start.getD j false := by
  rw [valF_get start xs 0 xs.length j (by omega) (Nat.le_refl _) (by omega)]
  rfl

theorem start_zero (ins lats : List Bool) : (startOf ins lats).getD 0 false = false := rfl
theorem start_in (ins lats : List Bool) (i : Nat) (h : i < ins.length) : (startOf ins lats).getD (1 + i) false = ins.getD i false := by
  unfold startOf
  rw [List.getD, List.append_assoc, List.getElem?_append_right (by simp), List.getElem?_append_left (by simp; omega)]
  simp [List.getD]
theorem start_lat (ins lats : List Bool) (i : Nat) (h : i < lats.length) : (startOf ins lats).getD (1 + ins.length + i) false = lats.getD i false := by
  unfold startOf
  rw [List.getD, List.append_assoc, List.getElem?_append_right (by simp; omega), List.getElem?_append_right (by simp; omega)]
  simp [List.getD]
  congr 2
  omega
theorem start_length (ins lats : List Bool) : (startOf ins lats).length = 1 + ins.length + lats.length := by unfold startOf; simp; omega

/-- A piece of a row. -/
theorem bits_piece {w : World} {g o cap : Nat} {vs ms : List Bool} (hc : ∀ i, i < vs.length → w.cell? ⟨g, i, none⟩ = some (.bool (vs.getD i false))) (hm : o + ms.length ≤ vs.length) (h : ∀ i, i < ms.length → vs.getD (o + i) false = ms.getD i false) : IsBits w (.slice (some ⟨g, o, none⟩) ms.length cap) ms :=
  ⟨_, _, rfl, fun _ => ⟨g, o, rfl, fun i hi => by rw [hc (o + i) (by omega), h i hi]⟩⟩

theorem sizes_ok {inp : Int} {ls : List (Int × Bool)} {xs : List (Int × Int)} {bs : List Int} (h : okC inp ls xs bs = true) : 0 ≤ inp ∧ inp ≤ 8 ∧ ls.length ≤ 8 ∧ xs.length ≤ 40 ∧ bs.length ≤ 4 := by
  unfold okC sizesB at h
  simp only [Bool.and_eq_true, decide_eq_true_eq] at h
  exact h.1

/-- What an and means, laid out. -/
theorem and_parts {inp : Int} {ls : List (Int × Bool)} {xs : List (Int × Int)} {bs : List Int} {lats ins : List Bool} (h : fitsB inp ls xs bs lats ins = true) (h64 : ∀ p ∈ xs, I64 p.1 ∧ I64 p.2) {k : Nat} (hk : k < xs.length) :
    0 ≤ (xs.getD k (0, 0)).1 ∧ (xs.getD k (0, 0)).1 < 2 * (1 + ins.length + lats.length + k) ∧ 0 ≤ (xs.getD k (0, 0)).2 ∧ (xs.getD k (0, 0)).2 < 2 * (1 + ins.length + lats.length + k) ∧
    (valsOf inp ls xs bs lats ins).getD (1 + ins.length + lats.length + k) false = (litV (valsOf inp ls xs bs lats ins) (xs.getD k (0, 0)).1 && litV (valsOf inp ls xs bs lats ins) (xs.getD k (0, 0)).2) := by
  obtain ⟨e1, e2, e3⟩ := fitsB_iff.1 h
  obtain ⟨p1, p2⟩ := pair_of_ok e1 hk
  have hm : xs.getD k (0, 0) ∈ xs := by rw [List.getD, List.getElem?_eq_getElem hk]; simp
  obtain ⟨q1, q2⟩ := h64 _ hm
  obtain ⟨a0, a1⟩ := ahead_of p1 q1
  obtain ⟨b0, b1⟩ := ahead_of p2 q2
  have hl := start_length ins lats
  refine ⟨a0, by omega, b0, by omega, ?_⟩
  rw [valsOf_fits h]
  have := valF_and (startOf ins lats) xs k hk (by omega) (by omega)
  rw [hl] at this
  exact this

end Go.Proofs.Ytlahnihpdidanaa
