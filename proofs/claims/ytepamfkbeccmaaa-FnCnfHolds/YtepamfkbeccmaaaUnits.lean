/-
  The model's l1Has, l1Unit: the plain functions of lists.
-/
import Derived.Test.YtepamfkbeccmaaaPure
namespace Go.Proofs.Ytepamfkbeccmaaa
open Go.RowKit Go.Deep
set_option linter.unusedVariables false

theorem contains_take_succ (xs : List Int) (x : Int) (k : Nat) (h : k < xs.length) : (xs.take (k + 1)).contains x = ((xs.take k).contains x || (x == xs.getD k 0)) := by
  rw [List.take_succ_eq_append_getElem h, Bool.eq_iff_iff, List.contains_iff_mem, Bool.or_eq_true, List.contains_iff_mem, List.mem_append]
  simp only [List.mem_singleton, List.getD, List.getElem?_eq_getElem h, Option.getD_some, beq_iff_eq]

theorem contains_of (xs : List Int) (x : Int) (k : Nat) (h : k < xs.length) (hx : xs.getD k 0 = x) : xs.contains x = true := by
  rw [List.contains_iff_mem]
  rw [← hx]
  simp [List.getD, List.getElem?_eq_getElem h]

set_option maxHeartbeats 1000000 in
theorem l1Has_any (v : Value) (xs : List Int) (x : Int) (w : World) (hv : IsInts w v xs) (hn : xs.length ≤ maxLen) :
    Calls Try.prog 28 #[v, .int .i64 x] w fun e w' => e = .returned (.bool (xs.contains x)) ∧ w' = w := by
  obtain ⟨ao, cap, rfl, hv⟩ := hv
  generalize hN : xs.length = n at *
  unfold maxLen at hn
  have HN : Hid (xs.length = n) := hN
  clear hN
  by_cases hne : 0 < n
  · obtain ⟨b, off, rfl, hc⟩ := hv (by intro e; have := HN.out; subst e; simp at this; omega)
    have HC : Hid (∀ i, i < n → w.cell? ⟨b, off + i, none⟩ = some (.int .i64 (xs.getD i 0))) := hc
    clear hc hv
    obtain ⟨r, hr⟩ : ∃ r, xs.contains x = r := ⟨_, rfl⟩
    rw [hr]
    have HR : Hid (xs.contains x = r) := hr
    clear hr
    go_enter Try.func28, Try.ntmps28
    go_wp2
    go_loop [5] (fun i => ∃ k : Nat, k ≤ n ∧ i = .int .i64 k ∧ Hid ((xs.take k).contains x = false)) (fun i => n - (intOf i).toNat)
    case atStart => exact ⟨0, Nat.zero_le _, rfl, rfl⟩
    case round =>
      obtain ⟨k, hk, rfl, hall⟩ := hrel
      by_cases hlt : k < n
      · have hcell := HC.out k hlt
        have hlt' : k < xs.length := by rw [HN.out]; exact hlt
        have hts := contains_take_succ xs x k hlt'
        have htrue := contains_of xs x k hlt'
        generalize xs.getD k 0 = y at *
        by_cases hx : y = x
        · have HF : Hid (r = true) := by
            show r = true
            rw [← HR.out]; exact htrue hx
          have hbeq : (y == x) = true := by simpa using hx
          clear hts htrue hx hlt'
          go_wp2
          go_ret
          exact ⟨ret_bool HF.out.symm, rfl⟩
        · have HT : Hid ((xs.take (k + 1)).contains x = false) := by
            show (xs.take (k + 1)).contains x = false
            rw [hts, hall.out]; simp; exact fun e => hx e.symm
          have hbeq : (y == x) = false := by simpa using hx
          clear hts htrue hx hlt'
          go_wp2
          go_round
          case rel => exact ⟨k + 1, by omega, by go_num, HT⟩
          case measure => simp [intOf]; omega
      · have HT : Hid (r = false) := by
          show r = false
          have h := hall.out
          rw [List.take_of_length_le (by have := HN.out; omega)] at h
          rw [← HR.out]; exact h
        go_wp2
        go_ret
        exact ⟨ret_bool HT.out.symm, rfl⟩
  · obtain rfl : xs = [] := List.length_eq_zero_iff.1 (by have := HN.out; omega)
    clear hv
    go_enter Try.func28, Try.ntmps28
    go_wp2
    go_rounds 1
    go_ret
    exact ⟨rfl, rfl⟩

theorem ret_pair {a b : Int} {c d : Bool} (h : a = b) (k : c = d) : Ending.returned (.tuple #[.int .i64 a, .bool c]) = .returned (.tuple #[.int .i64 b, .bool d]) := by rw [h, k]

theorem drop_getD (xs : List Int) (k : Nat) (h : k < xs.length) : xs.drop k = xs.getD k 0 :: xs.drop (k + 1) := by
  rw [List.drop_eq_getElem_cons h]
  simp [List.getD, List.getElem?_eq_getElem h]

set_option maxHeartbeats 2000000 in
theorem l1Unit_any (v1 v2 : Value) (xs told : List Int) (w : World) (h1 : IsInts w v1 xs) (h2 : IsInts w v2 told) (hn : xs.length ≤ maxLen) (ht : told.length ≤ maxLen) (hr : ∀ x ∈ xs, -100 ≤ x ∧ x ≤ 100) :
    Calls Try.prog 34 #[v1, v2] w fun e w' => e = .returned (.tuple #[.int .i64 (unitL told xs 0).1, .bool (unitL told xs 0).2]) ∧ w' = w := by
  have H2 : Hid (IsInts w v2 told) := h2
  have HTL : Hid (told.length ≤ maxLen) := ht
  have HRG : Hid (∀ i, i < xs.length → -100 ≤ xs.getD i 0 ∧ xs.getD i 0 ≤ 100) := fun i hi => hr _ (by rw [List.getD, List.getElem?_eq_getElem hi]; simp)
  obtain ⟨ao2, cap2, rfl, _⟩ := h2
  obtain ⟨ao, cap, rfl, hv⟩ := h1
  clear ht hr
  generalize hN : xs.length = n at *
  unfold maxLen at hn
  have HN : Hid (xs.length = n) := hN
  clear hN
  by_cases hne : 0 < n
  · obtain ⟨b, off, rfl, hc⟩ := hv (by intro e; have := HN.out; subst e; simp at this; omega)
    have HC : Hid (∀ i, i < n → w.cell? ⟨b, off + i, none⟩ = some (.int .i64 (xs.getD i 0))) := hc
    clear hc hv
    obtain ⟨rx, rb, hru⟩ : ∃ rx rb, unitL told xs 0 = (rx, rb) := ⟨_, _, rfl⟩
    rw [hru]
    have HR : Hid (unitL told xs 0 = (rx, rb)) := hru
    clear hru
    go_enter Try.func34, Try.ntmps34
    go_wp2
    go_loop [6, 7] (fun l i => ∃ (k : Nat) (left : Int), k ≤ n ∧ i = .int .i64 k ∧ l = .int .i64 left ∧ Hid (unitL told (xs.drop k) left = (rx, rb))) (fun _ i => n - (intOf i).toNat)
    case atStart => exact ⟨0, 0, Nat.zero_le _, rfl, rfl, HR.out⟩
    case round =>
      obtain ⟨k, left, hk, rfl, rfl, hall⟩ := hrel
      by_cases hlt : k < n
      · have hcell := HC.out k hlt
        have hrg := HRG.out k hlt
        have hu := hall.out
        rw [drop_getD xs k (by rw [HN.out]; exact hlt)] at hu
        clear hall
        generalize xs.getD k 0 = x at *
        cases c1 : told.contains x with
        | true =>
          have HU : Hid (0 = rx ∧ true = rb) := by rw [unitL_told c1] at hu; exact Prod.mk.inj hu
          have C1 : Hid (told.contains x = true) := c1
          clear hu c1
          go_wp2_with (go_at_call 28; refine (l1Has_any _ told _ _ H2.out HTL.out).mono ?_; rintro e w' ⟨rfl, rfl⟩; rw [C1.out])
          go_ret2
          exact ⟨ret_pair HU.out.1 HU.out.2, rfl⟩
        | false =>
          have C1 : Hid (told.contains x = false) := c1
          cases c2 : told.contains (-x) with
          | true =>
            have HU : Hid (unitL told (xs.drop (k + 1)) left = (rx, rb)) := by rw [unitL_skip c1 (by rw [c2]; rfl)] at hu; exact hu
            have C2 : Hid (told.contains (-x) = true) := c2
            clear hu c1 c2
            go_wp2_with fail
            refine (l1Has_any _ told _ _ H2.out HTL.out).mono ?_
            rintro e w' ⟨rfl, rfl⟩
            rw [C1.out]
            go_wp2_with fail
            refine (l1Has_any _ told _ _ H2.out HTL.out).mono ?_
            rintro e w' ⟨rfl, rfl⟩
            rw [C2.out]
            go_wp2
            go_round
            case rel => exact ⟨k + 1, left, by omega, by go_num, rfl, HU⟩
            case measure => simp [intOf]; omega
          | false =>
            have C2 : Hid (told.contains (-x) = false) := c2
            by_cases hxl : x = left
            · have hbeq : (x == left) = true := by simpa using hxl
              have HU : Hid (unitL told (xs.drop (k + 1)) left = (rx, rb)) := by rw [unitL_skip c1 (by rw [c2, hbeq]; rfl)] at hu; exact hu
              clear hu c1 c2 hxl
              go_wp2_with fail
              refine (l1Has_any _ told _ _ H2.out HTL.out).mono ?_
              rintro e w' ⟨rfl, rfl⟩
              rw [C1.out]
              go_wp2_with fail
              refine (l1Has_any _ told _ _ H2.out HTL.out).mono ?_
              rintro e w' ⟨rfl, rfl⟩
              rw [C2.out]
              go_wp2
              go_round
              case rel => exact ⟨k + 1, left, by omega, by go_num, rfl, HU⟩
              case measure => simp [intOf]; omega
            · have hbeq : (x == left) = false := by simpa using hxl
              by_cases hl0 : left = 0
              · have HU : Hid (unitL told (xs.drop (k + 1)) x = (rx, rb)) := by rw [unitL_new c1 (by rw [c2, hbeq]; rfl) hl0] at hu; exact hu
                have hb0 : (left == 0) = true := by simpa using hl0
                have hb1 : (left != 0) = false := by simpa using hl0
                clear hu c1 c2 hxl hl0
                go_wp2_with fail
                refine (l1Has_any _ told _ _ H2.out HTL.out).mono ?_
                rintro e w' ⟨rfl, rfl⟩
                rw [C1.out]
                go_wp2_with fail
                refine (l1Has_any _ told _ _ H2.out HTL.out).mono ?_
                rintro e w' ⟨rfl, rfl⟩
                rw [C2.out]
                go_wp2
                go_round
                case rel => exact ⟨k + 1, x, by omega, by go_num, rfl, HU⟩
                case measure => simp [intOf]; omega
              · have HU : Hid (0 = rx ∧ true = rb) := by rw [unitL_two c1 (by rw [c2, hbeq]; rfl) hl0] at hu; exact Prod.mk.inj hu
                have hb0 : (left == 0) = false := by simpa using hl0
                have hb1 : (left != 0) = true := by simpa using hl0
                clear hu c1 c2 hxl hl0
                go_wp2_with fail
                refine (l1Has_any _ told _ _ H2.out HTL.out).mono ?_
                rintro e w' ⟨rfl, rfl⟩
                rw [C1.out]
                go_wp2_with fail
                refine (l1Has_any _ told _ _ H2.out HTL.out).mono ?_
                rintro e w' ⟨rfl, rfl⟩
                rw [C2.out]
                go_wp2
                go_ret2
                exact ⟨ret_pair HU.out.1 HU.out.2, rfl⟩
      · have HU : Hid (left = rx ∧ decide (left ≠ 0) = rb) := by
          have hu := hall.out
          rw [List.drop_eq_nil_of_le (by have := HN.out; omega)] at hu
          exact Prod.mk.inj hu
        clear hall
        by_cases hl0 : left = 0
        · have HU2 : Hid (left = rx ∧ false = rb) := ⟨HU.out.1, by rw [← HU.out.2]; simp [hl0]⟩
          have hb1 : (left != 0) = false := by simpa using hl0
          clear hl0
          go_wp2
          go_ret2
          exact ⟨ret_pair HU2.out.1 HU2.out.2, rfl⟩
        · have HU2 : Hid (left = rx ∧ true = rb) := ⟨HU.out.1, by rw [← HU.out.2]; simp [hl0]⟩
          have hb1 : (left != 0) = true := by simpa using hl0
          clear hl0
          go_wp2
          go_ret2
          exact ⟨ret_pair HU2.out.1 HU2.out.2, rfl⟩
  · obtain rfl : xs = [] := List.length_eq_zero_iff.1 (by have := HN.out; omega)
    clear hv
    go_enter Try.func34, Try.ntmps34
    go_wp2
    go_rounds 1
    go_ret2
    exact ⟨rfl, rfl⟩

end Go.Proofs.Ytepamfkbeccmaaa
