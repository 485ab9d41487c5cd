/-
  Whether clauses are ok: the program's CnfOk and the model's, each the same plain function of what the clauses are.
-/
import Derived.Test.YtepamfkbeccmaaaBase
import Derived.Deep.QuietTactic
import Derived.BigQuiet
namespace Go.Proofs.Ytepamfkbeccmaaa
open Go.RowKit Go.Deep

def litB (vars x : Int) : Bool := decide (x ≠ 0) && (decide (-vars ≤ x) && decide (x ≤ vars))
def fitB (vars : Int) (xs : List Int) : Bool := decide (xs.length ≤ 8) && xs.all (litB vars)
def okB (vars : Int) (xss : List (List Int)) : Bool := decide (0 ≤ vars ∧ vars ≤ 60 ∧ xss.length ≤ 150) && xss.all (fitB vars)

theorem litB_iff {vars x : Int} : litB vars x = true ↔ x ≠ 0 ∧ -vars ≤ x ∧ x ≤ vars := by
  unfold litB
  simp

theorem ret_bool {a b : Bool} (h : a = b) : Ending.returned (.bool a) = .returned (.bool b) := by rw [h]

theorem all_take_succ {α : Type} (p : α → Bool) (xs : List α) (d : α) (k : Nat) (h : k < xs.length) : (xs.take (k + 1)).all p = ((xs.take k).all p && p (xs.getD k d)) := by
  rw [List.take_succ_eq_append_getElem h, List.all_append]
  simp [List.getD, List.getElem?_eq_getElem h]

theorem all_false_of {α : Type} (p : α → Bool) (xs : List α) (d : α) (k : Nat) (h : k < xs.length) (hp : p (xs.getD k d) = false) : xs.all p = false := by
  rw [List.all_eq_false]
  refine ⟨xs[k], List.getElem_mem h, ?_⟩
  simp [List.getD, List.getElem?_eq_getElem h] at hp
  simp [hp]

set_option maxHeartbeats 400000 in
theorem isOf_any (x vars : Int) (w : World) (h0 : 0 ≤ vars) (h1 : vars ≤ 60) :
    Calls Try.prog 33 #[.int .i64 x, .int .i64 vars] w fun e w' => e = .returned (.bool (litB vars x)) ∧ w' = w := by
  by_cases hx : x = 0
  · have hb : (x == 0) = true := by simpa using hx
    have hr : litB vars x = false := by simp [litB, hx]
    rw [hr]
    subst hx
    clear hb
    go_enter Try.func33, Try.ntmps33
    go_wp2
    go_ret
    exact ⟨rfl, rfl⟩
  · have hb : (x == 0) = false := by simpa using hx
    have hb2 : (x != 0) = true := by simpa using hx
    by_cases hl : -vars ≤ x
    · by_cases hh : x ≤ vars
      · have hr : litB vars x = true := by simp [litB, hx, hl, hh]
        rw [hr]
        go_enter Try.func33, Try.ntmps33
        go_wp2
        go_ret
        exact ⟨rfl, rfl⟩
      · have hr : litB vars x = false := by simp [litB, hh]
        rw [hr]
        go_enter Try.func33, Try.ntmps33
        go_wp2
        go_ret
        exact ⟨rfl, rfl⟩
    · have hr : litB vars x = false := by simp [litB, hl]
      rw [hr]
      go_enter Try.func33, Try.ntmps33
      go_wp2
      go_ret
      exact ⟨rfl, rfl⟩

set_option maxHeartbeats 1000000 in
theorem areLits_any (v : Value) (xs : List Int) (vars : Int) (w : World) (hv : IsInts w v xs) (hn : xs.length ≤ maxLen) (h0 : 0 ≤ vars) (h1 : vars ≤ 60) :
    Calls Try.prog 26 #[v, .int .i64 vars] w fun e w' => e = .returned (.bool (xs.all (litB vars))) ∧ w' = w := by
  obtain ⟨ao, cap, rfl, hv⟩ := hv
  generalize hN : xs.length = n at *
  unfold maxLen at hn
  have HN : Hid (xs.length = n) := hN
  clear hN
  by_cases hne : 0 < n
  · obtain ⟨b, off, rfl, hc⟩ := hv (by intro e; have := HN.out; subst e; simp at this; omega)
    have HC : Hid (∀ i, i < n → w.cell? ⟨b, off + i, none⟩ = some (.int .i64 (xs.getD i 0))) := hc
    clear hc hv
    have hbool : ∃ r, xs.all (litB vars) = r := ⟨_, rfl⟩
    obtain ⟨r, hr⟩ := hbool
    rw [hr]
    have HR : Hid (xs.all (litB vars) = r) := hr
    clear hr
    go_enter Try.func26, Try.ntmps26
    go_wp2
    go_loop [9] (fun i => ∃ k : Nat, k ≤ n ∧ i = .int .i64 k ∧ Hid ((xs.take k).all (litB vars) = true)) (fun i => n - (intOf i).toNat)
    case atStart => exact ⟨0, Nat.zero_le _, rfl, rfl⟩
    case round =>
      obtain ⟨k, hk, rfl, hall⟩ := hrel
      by_cases hlt : k < n
      · have hcell := HC.out k hlt
        have hlt' : k < xs.length := by rw [HN.out]; exact hlt
        have hts := all_take_succ (litB vars) xs 0 k hlt'
        have hfalse := all_false_of (litB vars) xs 0 k hlt'
        generalize xs.getD k 0 = x at *
        cases hx : litB vars x with
        | true =>
          have HT : Hid ((xs.take (k + 1)).all (litB vars) = true) := by
            show (xs.take (k + 1)).all (litB vars) = true
            rw [hts, hall.out, hx]; rfl
          have HX : Hid (litB vars x = true) := hx
          clear hts hfalse hx hlt'
          go_wp2_with (go_at_call 33; refine (isOf_any _ _ _ h0 h1).mono ?_; rintro e w' ⟨rfl, rfl⟩; rw [HX.out])
          go_round
          case rel => exact ⟨k + 1, by omega, by go_num, HT⟩
          case measure => simp [intOf]; omega
        | false =>
          have HF : Hid (r = false) := by
            show r = false
            rw [← HR.out]; exact hfalse hx
          have HX : Hid (litB vars x = false) := hx
          clear hts hfalse hx hlt'
          go_wp2_with (go_at_call 33; refine (isOf_any _ _ _ h0 h1).mono ?_; rintro e w' ⟨rfl, rfl⟩; rw [HX.out])
          go_ret
          exact ⟨ret_bool HF.out.symm, rfl⟩
      · have HT : Hid (r = true) := by
          show r = true
          have h := hall.out
          rw [List.take_of_length_le (by have := HN.out; omega)] at h
          rw [← HR.out]; exact h
        go_wp2
        go_ret
        exact ⟨ret_bool HT.out.symm, rfl⟩
  · obtain rfl : xs = [] := List.length_eq_zero_iff.1 (by have := HN.out; omega)
    clear hv
    go_enter Try.func26, Try.ntmps26
    go_wp2
    go_rounds 1
    go_ret
    exact ⟨rfl, rfl⟩

set_option maxHeartbeats 1000000 in
theorem clausesFit_any (v : Value) (xss : List (List Int)) (vars : Int) (w : World) (hv : IsRows w v xss) (hn : xss.length ≤ maxLen) (hm : ∀ i, i < xss.length → (xss.getD i []).length ≤ maxLen) (h0 : 0 ≤ vars) (h1 : vars ≤ 60) :
    Calls Try.prog 16 #[v, .int .i64 vars] w fun e w' => e = .returned (.bool (xss.all (fitB vars))) ∧ w' = w := by
  obtain ⟨ao, cap, rfl, hv⟩ := hv
  have HW : Hid (∀ i, i < xss.length → (xss.getD i []).length ≤ maxLen) := hm
  clear hm
  generalize hN : xss.length = n at *
  unfold maxLen at hn
  have HN : Hid (xss.length = n) := hN
  clear hN
  by_cases hne : 0 < n
  · obtain ⟨b, off, rfl, hc⟩ := hv (by intro e; have := HN.out; subst e; simp at this; omega)
    have HC : Hid (∀ i, i < n → ∃ r, w.cell? ⟨b, off + i, none⟩ = some r ∧ IsInts w r (xss.getD i [])) := hc
    clear hc hv
    obtain ⟨r, hr⟩ : ∃ r, xss.all (fitB vars) = r := ⟨_, rfl⟩
    rw [hr]
    have HR : Hid (xss.all (fitB vars) = r) := hr
    clear hr
    go_enter Try.func16, Try.ntmps16
    go_wp2
    go_loop [9] (fun i => ∃ k : Nat, k ≤ n ∧ i = .int .i64 k ∧ Hid ((xss.take k).all (fitB vars) = true)) (fun i => n - (intOf i).toNat)
    case atStart => exact ⟨0, Nat.zero_le _, rfl, rfl⟩
    case round =>
      obtain ⟨k, hk, rfl, hall⟩ := hrel
      by_cases hlt : k < n
      · obtain ⟨rv, hcell, hints⟩ := HC.out k hlt
        have hmx := HW.out k hlt
        have hlt' : k < xss.length := by rw [HN.out]; exact hlt
        have hts := all_take_succ (fitB vars) xss [] k hlt'
        have hfalse := all_false_of (fitB vars) xss [] k hlt'
        generalize xss.getD k [] = ys at *
        have HI : Hid (IsInts w rv ys) := hints
        have HM : Hid (ys.length ≤ maxLen) := hmx
        obtain ⟨a1, c1, rfl, _⟩ := hints
        unfold maxLen at hmx
        have HTS : Hid ((xss.take (k + 1)).all (fitB vars) = ((xss.take k).all (fitB vars) && fitB vars ys)) := hts
        have HFA : Hid (fitB vars ys = false → xss.all (fitB vars) = false) := hfalse
        clear hts hfalse hlt'
        by_cases h8 : ys.length ≤ 8
        · cases hx : ys.all (litB vars) with
          | true =>
            have HT : Hid ((xss.take (k + 1)).all (fitB vars) = true) := by
              show (xss.take (k + 1)).all (fitB vars) = true
              rw [HTS.out, hall.out]; unfold fitB; rw [hx]; simp [h8]
            have HX : Hid (ys.all (litB vars) = true) := hx
            clear hx
            go_wp2_with (go_at_call 26; refine (areLits_any _ ys _ _ HI.out HM.out h0 h1).mono ?_; rintro e w' ⟨rfl, rfl⟩; rw [HX.out])
            go_round
            case rel => exact ⟨k + 1, by omega, by go_num, HT⟩
            case measure => simp [intOf]; omega
          | false =>
            have HF : Hid (r = false) := by
              show r = false
              rw [← HR.out]; exact HFA.out (by unfold fitB; rw [hx]; simp)
            have HX : Hid (ys.all (litB vars) = false) := hx
            clear hx
            go_wp2_with (go_at_call 26; refine (areLits_any _ ys _ _ HI.out HM.out h0 h1).mono ?_; rintro e w' ⟨rfl, rfl⟩; rw [HX.out])
            go_ret
            exact ⟨ret_bool HF.out.symm, rfl⟩
        · have HF : Hid (r = false) := by
            show r = false
            rw [← HR.out]; exact HFA.out (by unfold fitB; simp [h8])
          go_wp2
          go_ret
          exact ⟨ret_bool HF.out.symm, rfl⟩
      · have HT : Hid (r = true) := by
          show r = true
          have h := hall.out
          rw [List.take_of_length_le (by have := HN.out; omega)] at h
          rw [← HR.out]; exact h
        go_wp2
        go_ret
        exact ⟨ret_bool HT.out.symm, rfl⟩
  · obtain rfl : xss = [] := List.length_eq_zero_iff.1 (by have := HN.out; omega)
    clear hv
    go_enter Try.func16, Try.ntmps16
    go_wp2
    go_rounds 1
    go_ret
    exact ⟨rfl, rfl⟩

set_option maxHeartbeats 1000000 in
theorem implCnfOk_any (vars : Int) (v : Value) (xss : List (List Int)) (w : World) (hv : IsRows w v xss) (hn : xss.length ≤ maxLen) (hm : ∀ i, i < xss.length → (xss.getD i []).length ≤ maxLen) :
    Calls Try.prog 7 #[.agg #[.int .i64 vars, v]] w fun e w' => e = .returned (.bool (okB vars xss)) ∧ Below w.heap.size w w' := by
  have HV : Hid (∀ w', Below w.heap.size w w' → IsRows w' v xss) := fun w' h => hv.below h
  obtain ⟨ao, cap, rfl, _⟩ := hv
  have HW : Hid (∀ i, i < xss.length → (xss.getD i []).length ≤ maxLen) := hm
  clear hm
  have HL : Hid (xss.length ≤ maxLen) := hn
  unfold maxLen at hn
  have HB : Hid (∀ o, Below w.heap.size w (w.alloc o)) := fun o => (Below.refl _ _).alloc (Nat.le_refl _) _
  by_cases h0 : 0 ≤ vars
  · by_cases h1 : vars ≤ 60
    · by_cases h2 : xss.length ≤ 150
      · have hr : okB vars xss = xss.all (fitB vars) := by unfold okB; simp [h0, h1, h2]
        rw [hr]
        clear hr
        go_enter Try.func7, Try.ntmps7
        go_wp2_with (go_at_call 16; refine (clausesFit_any _ xss _ _ (HV.out _ (HB.out _)) HL.out HW.out h0 h1).mono ?_; rintro e w' ⟨rfl, rfl⟩)
        go_ret
        exact ⟨rfl, HB.out _⟩
      · have hr : okB vars xss = false := by unfold okB; simp [h2]
        rw [hr]
        clear hr
        go_enter Try.func7, Try.ntmps7
        go_wp2
        go_ret
        exact ⟨rfl, HB.out _⟩
    · have hr : okB vars xss = false := by unfold okB; simp [h1]
      rw [hr]
      clear hr
      go_enter Try.func7, Try.ntmps7
      go_wp2
      go_ret
      exact ⟨rfl, HB.out _⟩
  · have hr : okB vars xss = false := by unfold okB; simp [h0]
    rw [hr]
    clear hr
    go_enter Try.func7, Try.ntmps7
    go_wp2
    go_ret
    exact ⟨rfl, HB.out _⟩

end Go.Proofs.Ytepamfkbeccmaaa
