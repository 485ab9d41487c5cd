/-
  Whether a literal, a clause, all clauses hold: the program's functions and the model's, each the same plain function.
-/
import Derived.Test.YtepamfkbeccmaaaOkSpec
namespace Go.Proofs.Ytepamfkbeccmaaa
open Go.RowKit Go.Deep

/-- The value is a slice of these truths. -/
def IsBools (w : World) (v : Value) (ms : List Bool) : Prop :=
  ∃ ao cap, v = .slice ao ms.length cap ∧ (ms ≠ [] → ∃ b off, ao = some ⟨b, off, none⟩ ∧ ∀ i, i < ms.length → w.cell? ⟨b, off + i, none⟩ = some (.bool (ms.getD i false)))

theorem IsBools.below {w w' : World} {v : Value} {ms : List Bool} (h : IsBools w v ms) (hb : Below w.heap.size w w') : IsBools w' v ms := by
  obtain ⟨ao, cap, rfl, h⟩ := h
  refine ⟨ao, cap, rfl, fun hne => ?_⟩
  obtain ⟨b, off, rfl, hc⟩ := h hne
  exact ⟨b, off, rfl, fun i hi => by rw [hb.cell (cell_lt (hc i hi))]; exact hc i hi⟩

def saysB (ms : List Bool) (x : Int) : Bool := ms.getD (x.natAbs - 1) false == decide (0 < x)
def holdsB (ms : List Bool) (xs : List Int) : Bool := xs.any (saysB ms)
def allB (ms : List Bool) (xss : List (List Int)) : Bool := xss.all (holdsB ms)

theorem any_take_succ {α : Type} (p : α → Bool) (xs : List α) (d : α) (k : Nat) (h : k < xs.length) : (xs.take (k + 1)).any p = ((xs.take k).any p || p (xs.getD k d)) := by
  rw [List.take_succ_eq_append_getElem h, List.any_append]
  simp [List.getD, List.getElem?_eq_getElem h]

theorem any_true_of {α : Type} (p : α → Bool) (xs : List α) (d : α) (k : Nat) (h : k < xs.length) (hp : p (xs.getD k d) = true) : xs.any p = true := by
  rw [List.any_eq_true]
  refine ⟨xs[k], List.getElem_mem h, ?_⟩
  simpa [List.getD, List.getElem?_eq_getElem h] using hp

set_option maxHeartbeats 400000 in
theorem holds_any (x : Int) (v : Value) (ms : List Bool) (w : World) (hv : IsBools w v ms) (hl : ms.length ≤ 60) (hx : litB ms.length x = true) :
    Calls Try.prog 31 #[.int .i64 x, v] w fun e w' => e = .returned (.bool (saysB ms x)) ∧ w' = w := by
  obtain ⟨h1, h2, h3⟩ := litB_iff.1 hx
  clear hx
  obtain ⟨ao, cap, rfl, hv⟩ := hv
  obtain ⟨b, off, rfl, hc⟩ := hv (by intro e; subst e; simp at h2 h3; omega)
  clear hv
  by_cases hneg : x < 0
  · obtain ⟨k, rfl⟩ : ∃ k : Nat, x = -((k : Int) + 1) := ⟨(-x - 1).toNat, by omega⟩
    have hcell := hc k (by omega)
    have hr : saysB ms (-((k : Int) + 1)) = !(ms.getD k false) := by
      unfold saysB
      have e1 : (-((k : Int) + 1)).natAbs - 1 = k := by omega
      have e2 : decide ((0 : Int) < -((k : Int) + 1)) = false := decide_eq_false (by omega)
      rw [e1, e2]; cases ms.getD k false <;> rfl
    rw [hr]
    generalize ms.getD k false = m at *
    generalize ms.length = n at *
    clear hc hr
    cases m
    all_goals
      go_enter Try.func31, Try.ntmps31
      go_wp2
      go_ret
      exact ⟨rfl, rfl⟩
  · obtain ⟨k, rfl⟩ : ∃ k : Nat, x = (k : Int) + 1 := ⟨(x - 1).toNat, by omega⟩
    have hcell := hc k (by omega)
    have hr : saysB ms ((k : Int) + 1) = ms.getD k false := by
      unfold saysB
      have e1 : ((k : Int) + 1).natAbs - 1 = k := by omega
      have e2 : decide ((0 : Int) < ((k : Int) + 1)) = true := decide_eq_true (by omega)
      rw [e1, e2]; cases ms.getD k false <;> rfl
    rw [hr]
    generalize ms.getD k false = m at *
    generalize ms.length = n at *
    clear hc hr
    cases m
    all_goals
      go_enter Try.func31, Try.ntmps31
      go_wp2
      go_ret
      exact ⟨rfl, rfl⟩

set_option maxHeartbeats 400000 in
theorem says_any (x : Int) (v : Value) (ms : List Bool) (w : World) (hv : IsBools w v ms) (hl : ms.length ≤ 60) (hx : litB ms.length x = true) :
    Calls Try.prog 32 #[.int .i64 x, v] w fun e w' => e = .returned (.bool (saysB ms x)) ∧ w' = w := by
  obtain ⟨h1, h2, h3⟩ := litB_iff.1 hx
  clear hx
  obtain ⟨ao, cap, rfl, hv⟩ := hv
  obtain ⟨b, off, rfl, hc⟩ := hv (by intro e; subst e; simp at h2 h3; omega)
  clear hv
  by_cases hneg : x < 0
  · obtain ⟨k, rfl⟩ : ∃ k : Nat, x = -((k : Int) + 1) := ⟨(-x - 1).toNat, by omega⟩
    have hcell := hc k (by omega)
    have hr : saysB ms (-((k : Int) + 1)) = !(ms.getD k false) := by
      unfold saysB
      have e1 : (-((k : Int) + 1)).natAbs - 1 = k := by omega
      have e2 : decide ((0 : Int) < -((k : Int) + 1)) = false := decide_eq_false (by omega)
      rw [e1, e2]; cases ms.getD k false <;> rfl
    rw [hr]
    generalize ms.getD k false = m at *
    generalize ms.length = n at *
    clear hc hr
    cases m
    all_goals
      go_enter Try.func32, Try.ntmps32
      go_wp2
      go_ret
      exact ⟨rfl, rfl⟩
  · obtain ⟨k, rfl⟩ : ∃ k : Nat, x = (k : Int) + 1 := ⟨(x - 1).toNat, by omega⟩
    have hcell := hc k (by omega)
    have hr : saysB ms ((k : Int) + 1) = ms.getD k false := by
      unfold saysB
      have e1 : ((k : Int) + 1).natAbs - 1 = k := by omega
      have e2 : decide ((0 : Int) < ((k : Int) + 1)) = true := decide_eq_true (by omega)
      rw [e1, e2]; cases ms.getD k false <;> rfl
    rw [hr]
    generalize ms.getD k false = m at *
    generalize ms.length = n at *
    clear hc hr
    cases m
    all_goals
      go_enter Try.func32, Try.ntmps32
      go_wp2
      go_ret
      exact ⟨rfl, rfl⟩

set_option maxHeartbeats 1000000 in
theorem clauseHolds_any (v1 : Value) (xs : List Int) (v : Value) (ms : List Bool) (w : World) (h1 : IsInts w v1 xs) (hn : xs.length ≤ maxLen) (hv : IsBools w v ms) (hl : ms.length ≤ 60) (hx : ∀ x ∈ xs, litB ms.length x = true) :
    Calls Try.prog 24 #[v1, v] w fun e w' => e = .returned (.bool (holdsB ms xs)) ∧ w' = w := by
  obtain ⟨ao, cap, rfl, h1⟩ := h1
  have HX : Hid (∀ i, i < xs.length → litB ms.length (xs.getD i 0) = true) := fun i hi => hx _ (by rw [List.getD, List.getElem?_eq_getElem hi]; simp)
  clear hx
  generalize hN : xs.length = n at *
  unfold maxLen at hn
  have HN : Hid (xs.length = n) := hN
  clear hN
  have HV : Hid (IsBools w v ms) := hv
  obtain ⟨ao2, cap2, rfl, _⟩ := hv
  have HL : Hid (ms.length ≤ 60) := hl
  by_cases hne : 0 < n
  · obtain ⟨b, off, rfl, hc⟩ := h1 (by intro e; have := HN.out; subst e; simp at this; omega)
    have HC : Hid (∀ i, i < n → w.cell? ⟨b, off + i, none⟩ = some (.int .i64 (xs.getD i 0))) := hc
    clear hc h1
    obtain ⟨r, hr⟩ : ∃ r, holdsB ms xs = r := ⟨_, rfl⟩
    rw [hr]
    have HR : Hid (xs.any (saysB ms) = r) := hr
    clear hr
    go_enter Try.func24, Try.ntmps24
    go_wp2
    go_loop [9] (fun i => ∃ k : Nat, k ≤ n ∧ i = .int .i64 k ∧ Hid ((xs.take k).any (saysB ms) = false)) (fun i => n - (intOf i).toNat)
    case atStart => exact ⟨0, Nat.zero_le _, rfl, rfl⟩
    case round =>
      obtain ⟨k, hk, rfl, hall⟩ := hrel
      by_cases hlt : k < n
      · have hcell := HC.out k hlt
        have hlit : Hid (litB ms.length (xs.getD k 0) = true) := HX.out k hlt
        have hlt' : k < xs.length := by rw [HN.out]; exact hlt
        have hts := any_take_succ (saysB ms) xs 0 k hlt'
        have htrue := any_true_of (saysB ms) xs 0 k hlt'
        generalize xs.getD k 0 = x at *
        cases hx : saysB ms x with
        | false =>
          have HT : Hid ((xs.take (k + 1)).any (saysB ms) = false) := by
            show (xs.take (k + 1)).any (saysB ms) = false
            rw [hts, hall.out, hx]; rfl
          have HX1 : Hid (saysB ms x = false) := hx
          clear hts htrue hx hlt'
          go_wp2_with (go_at_call 31; refine (holds_any _ _ ms _ HV.out HL.out hlit.out).mono ?_; rintro e w' ⟨rfl, rfl⟩; rw [HX1.out])
          go_round
          case rel => exact ⟨k + 1, by omega, by go_num, HT⟩
          case measure => simp [intOf]; omega
        | true =>
          have HF : Hid (r = true) := by
            show r = true
            rw [← HR.out]; exact htrue hx
          have HX1 : Hid (saysB ms x = true) := hx
          clear hts htrue hx hlt'
          go_wp2_with (go_at_call 31; refine (holds_any _ _ ms _ HV.out HL.out hlit.out).mono ?_; rintro e w' ⟨rfl, rfl⟩; rw [HX1.out])
          go_ret
          exact ⟨ret_bool HF.out.symm, rfl⟩
      · have HT : Hid (r = false) := by
          show r = false
          have h := hall.out
          rw [List.take_of_length_le (by have := HN.out; omega)] at h
          rw [← HR.out]; exact h
        go_wp2
        go_ret
        exact ⟨ret_bool HT.out.symm, rfl⟩
  · obtain rfl : xs = [] := List.length_eq_zero_iff.1 (by have := HN.out; omega)
    clear h1
    go_enter Try.func24, Try.ntmps24
    go_wp2
    go_rounds 1
    go_ret
    exact ⟨rfl, rfl⟩

set_option maxHeartbeats 1000000 in
theorem l1Holds_any (v1 : Value) (xs : List Int) (v : Value) (ms : List Bool) (w : World) (h1 : IsInts w v1 xs) (hn : xs.length ≤ maxLen) (hv : IsBools w v ms) (hl : ms.length ≤ 60) (hx : ∀ x ∈ xs, litB ms.length x = true) :
    Calls Try.prog 25 #[v1, v] w fun e w' => e = .returned (.bool (holdsB ms xs)) ∧ w' = w := by
  obtain ⟨ao, cap, rfl, h1⟩ := h1
  have HX : Hid (∀ i, i < xs.length → litB ms.length (xs.getD i 0) = true) := fun i hi => hx _ (by rw [List.getD, List.getElem?_eq_getElem hi]; simp)
  clear hx
  generalize hN : xs.length = n at *
  unfold maxLen at hn
  have HN : Hid (xs.length = n) := hN
  clear hN
  have HV : Hid (IsBools w v ms) := hv
  obtain ⟨ao2, cap2, rfl, _⟩ := hv
  have HL : Hid (ms.length ≤ 60) := hl
  by_cases hne : 0 < n
  · obtain ⟨b, off, rfl, hc⟩ := h1 (by intro e; have := HN.out; subst e; simp at this; omega)
    have HC : Hid (∀ i, i < n → w.cell? ⟨b, off + i, none⟩ = some (.int .i64 (xs.getD i 0))) := hc
    clear hc h1
    obtain ⟨r, hr⟩ : ∃ r, holdsB ms xs = r := ⟨_, rfl⟩
    rw [hr]
    have HR : Hid (xs.any (saysB ms) = r) := hr
    clear hr
    go_enter Try.func25, Try.ntmps25
    go_wp2
    go_loop [5] (fun i => ∃ k : Nat, k ≤ n ∧ i = .int .i64 k ∧ Hid ((xs.take k).any (saysB ms) = false)) (fun i => n - (intOf i).toNat)
    case atStart => exact ⟨0, Nat.zero_le _, rfl, rfl⟩
    case round =>
      obtain ⟨k, hk, rfl, hall⟩ := hrel
      by_cases hlt : k < n
      · have hcell := HC.out k hlt
        have hlit : Hid (litB ms.length (xs.getD k 0) = true) := HX.out k hlt
        have hlt' : k < xs.length := by rw [HN.out]; exact hlt
        have hts := any_take_succ (saysB ms) xs 0 k hlt'
        have htrue := any_true_of (saysB ms) xs 0 k hlt'
        generalize xs.getD k 0 = x at *
        cases hx : saysB ms x with
        | false =>
          have HT : Hid ((xs.take (k + 1)).any (saysB ms) = false) := by
            show (xs.take (k + 1)).any (saysB ms) = false
            rw [hts, hall.out, hx]; rfl
          have HX1 : Hid (saysB ms x = false) := hx
          clear hts htrue hx hlt'
          go_wp2_with (go_at_call 32; refine (says_any _ _ ms _ HV.out HL.out hlit.out).mono ?_; rintro e w' ⟨rfl, rfl⟩; rw [HX1.out])
          go_round
          case rel => exact ⟨k + 1, by omega, by go_num, HT⟩
          case measure => simp [intOf]; omega
        | true =>
          have HF : Hid (r = true) := by
            show r = true
            rw [← HR.out]; exact htrue hx
          have HX1 : Hid (saysB ms x = true) := hx
          clear hts htrue hx hlt'
          go_wp2_with (go_at_call 32; refine (says_any _ _ ms _ HV.out HL.out hlit.out).mono ?_; rintro e w' ⟨rfl, rfl⟩; rw [HX1.out])
          go_ret
          exact ⟨ret_bool HF.out.symm, rfl⟩
      · have HT : Hid (r = false) := by
          show r = false
          have h := hall.out
          rw [List.take_of_length_le (by have := HN.out; omega)] at h
          rw [← HR.out]; exact h
        go_wp2
        go_ret
        exact ⟨ret_bool HT.out.symm, rfl⟩
  · obtain rfl : xs = [] := List.length_eq_zero_iff.1 (by have := HN.out; omega)
    clear h1
    go_enter Try.func25, Try.ntmps25
    go_wp2
    go_rounds 1
    go_ret
    exact ⟨rfl, rfl⟩

set_option maxHeartbeats 1000000 in
theorem allHold_any (v1 : Value) (xss : List (List Int)) (v : Value) (ms : List Bool) (w : World) (h1 : IsRows w v1 xss) (hn : xss.length ≤ maxLen) (hm : ∀ i, i < xss.length → (xss.getD i []).length ≤ maxLen) (hv : IsBools w v ms) (hl : ms.length ≤ 60)
    (hx : ∀ xs ∈ xss, ∀ x ∈ xs, litB ms.length x = true) :
    Calls Try.prog 14 #[v1, v] w fun e w' => e = .returned (.bool (allB ms xss)) ∧ w' = w := by
  obtain ⟨ao, cap, rfl, h1⟩ := h1
  have HX : Hid (∀ i, i < xss.length → ∀ x ∈ xss.getD i [], litB ms.length x = true) := fun i hi => hx _ (by rw [List.getD, List.getElem?_eq_getElem hi]; simp)
  have HW : Hid (∀ i, i < xss.length → (xss.getD i []).length ≤ maxLen) := hm
  clear hx hm
  generalize hN : xss.length = n at *
  unfold maxLen at hn
  have HN : Hid (xss.length = n) := hN
  clear hN
  have HV : Hid (IsBools w v ms) := hv
  obtain ⟨ao2, cap2, rfl, _⟩ := hv
  have HL : Hid (ms.length ≤ 60) := hl
  by_cases hne : 0 < n
  · obtain ⟨b, off, rfl, hc⟩ := h1 (by intro e; have := HN.out; subst e; simp at this; omega)
    have HC : Hid (∀ i, i < n → ∃ r, w.cell? ⟨b, off + i, none⟩ = some r ∧ IsInts w r (xss.getD i [])) := hc
    clear hc h1
    obtain ⟨r, hr⟩ : ∃ r, allB ms xss = r := ⟨_, rfl⟩
    rw [hr]
    have HR : Hid (xss.all (holdsB ms) = r) := hr
    clear hr
    go_enter Try.func14, Try.ntmps14
    go_wp2
    go_loop [9] (fun i => ∃ k : Nat, k ≤ n ∧ i = .int .i64 k ∧ Hid ((xss.take k).all (holdsB ms) = true)) (fun i => n - (intOf i).toNat)
    case atStart => exact ⟨0, Nat.zero_le _, rfl, rfl⟩
    case round =>
      obtain ⟨k, hk, rfl, hall⟩ := hrel
      by_cases hlt : k < n
      · obtain ⟨rv, hcell, hints⟩ := HC.out k hlt
        have hmx : Hid ((xss.getD k []).length ≤ maxLen) := HW.out k hlt
        have hlit : Hid (∀ x ∈ xss.getD k [], litB ms.length x = true) := HX.out k hlt
        have hlt' : k < xss.length := by rw [HN.out]; exact hlt
        have hts := all_take_succ (holdsB ms) xss [] k hlt'
        have hfalse := all_false_of (holdsB ms) xss [] k hlt'
        generalize xss.getD k [] = ys at *
        have HI : Hid (IsInts w rv ys) := hints
        obtain ⟨a1, c1, rfl, _⟩ := hints
        cases hx : holdsB ms ys with
        | true =>
          have HT : Hid ((xss.take (k + 1)).all (holdsB ms) = true) := by
            show (xss.take (k + 1)).all (holdsB ms) = true
            rw [hts, hall.out, hx]; rfl
          have HX1 : Hid (holdsB ms ys = true) := hx
          clear hts hfalse hx hlt'
          go_wp2_with (go_at_call 24; refine (clauseHolds_any _ ys _ ms _ HI.out hmx.out HV.out HL.out hlit.out).mono ?_; rintro e w' ⟨rfl, rfl⟩; rw [HX1.out])
          go_round
          case rel => exact ⟨k + 1, by omega, by go_num, HT⟩
          case measure => simp [intOf]; omega
        | false =>
          have HF : Hid (r = false) := by
            show r = false
            rw [← HR.out]; exact hfalse hx
          have HX1 : Hid (holdsB ms ys = false) := hx
          clear hts hfalse hx hlt'
          go_wp2_with (go_at_call 24; refine (clauseHolds_any _ ys _ ms _ HI.out hmx.out HV.out HL.out hlit.out).mono ?_; rintro e w' ⟨rfl, rfl⟩; rw [HX1.out])
          go_ret
          exact ⟨ret_bool HF.out.symm, rfl⟩
      · have HT : Hid (r = true) := by
          show r = true
          have h := hall.out
          rw [List.take_of_length_le (by have := HN.out; omega)] at h
          rw [← HR.out]; exact h
        go_wp2
        go_ret
        exact ⟨ret_bool HT.out.symm, rfl⟩
  · obtain rfl : xss = [] := List.length_eq_zero_iff.1 (by have := HN.out; omega)
    clear h1
    go_enter Try.func14, Try.ntmps14
    go_wp2
    go_rounds 1
    go_ret
    exact ⟨rfl, rfl⟩

end Go.Proofs.Ytepamfkbeccmaaa
