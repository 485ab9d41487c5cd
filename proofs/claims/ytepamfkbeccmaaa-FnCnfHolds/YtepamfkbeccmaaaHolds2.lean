/-
  CnfHolds of the program and of the model, and copies of truths.
-/
import Derived.Test.YtepamfkbeccmaaaHolds
namespace Go.Proofs.Ytepamfkbeccmaaa
open Go.RowKit Go.Deep
set_option linter.unusedVariables false

set_option maxHeartbeats 1000000 in
theorem l1All_any (vars : Int) (v1 : Value) (xss : List (List Int)) (v : Value) (ms : List Bool) (w : World) (h1 : IsRows w v1 xss) (hn : xss.length ≤ maxLen) (hm : ∀ i, i < xss.length → (xss.getD i []).length ≤ maxLen) (hv : IsBools w v ms) (hl : ms.length ≤ 60)
    (hx : ∀ xs ∈ xss, ∀ x ∈ xs, litB ms.length x = true) :
    Calls Try.prog 15 #[.agg #[.int .i64 vars, v1], v] w fun e w' => e = .returned (.bool (allB ms xss)) ∧ Below w.heap.size w w' := by
  have HB : Hid (∀ o, Below w.heap.size w (w.alloc o)) := fun o => belOne w o
  have HV : Hid (∀ o, IsBools (w.alloc o) v ms) := fun o => hv.below (belOne w o)
  have H1 : ∀ o, IsRows (w.alloc o) v1 xss := fun o => h1.below (belOne w o)
  obtain ⟨ao, cap, rfl, _⟩ := h1
  have HX : Hid (∀ i, i < xss.length → ∀ x ∈ xss.getD i [], litB ms.length x = true) := fun i hi => hx _ (by rw [List.getD, List.getElem?_eq_getElem hi]; simp)
  have HW : Hid (∀ i, i < xss.length → (xss.getD i []).length ≤ maxLen) := hm
  clear hx hm
  generalize hN : xss.length = n at *
  unfold maxLen at hn
  have HN : Hid (xss.length = n) := hN
  clear hN
  obtain ⟨ao2, cap2, rfl, _⟩ := hv
  have HL : Hid (ms.length ≤ 60) := hl
  obtain ⟨W0, hW0⟩ : ∃ W0, W0 = w.alloc (.cells #[.int .i64 vars, .slice ao n cap] 25) := ⟨_, rfl⟩
  obtain ⟨ao', cap', he, h1⟩ := H1 (.cells #[.int .i64 vars, .slice ao n cap] 25)
  simp only [HN.out, Value.slice.injEq, true_and] at he
  obtain ⟨rfl, rfl⟩ := he
  clear H1
  obtain ⟨r, hr⟩ : ∃ r, allB ms xss = r := ⟨_, rfl⟩
  rw [hr]
  have HR : Hid (xss.all (holdsB ms) = r) := hr
  clear hr
  by_cases hne : 0 < n
  · obtain ⟨b, off, rfl, hc⟩ := h1 (by intro e; have := HN.out; subst e; simp at this; omega)
    have HC : Hid (∀ i, i < n → ∃ r, (w.alloc (.cells #[.int .i64 vars, .slice (some ⟨b, off, none⟩) n cap] 25)).cell? ⟨b, off + i, none⟩ = some r ∧ IsInts (w.alloc (.cells #[.int .i64 vars, .slice (some ⟨b, off, none⟩) n cap] 25)) r (xss.getD i [])) := by
      intro i hi; exact hc i (by rw [HN.out]; exact hi)
    clear hc h1 hW0
    go_enter Try.func15, Try.ntmps15
    go_wp2
    go_loop [5] (fun i => ∃ k : Nat, k ≤ n ∧ i = .int .i64 k ∧ Hid ((xss.take k).all (holdsB ms) = true)) (fun i => n - (intOf i).toNat)
    case atStart => exact ⟨0, Nat.zero_le _, rfl, rfl⟩
    case round =>
      obtain ⟨k, hk, rfl, hall⟩ := hrel
      by_cases hlt : k < n
      · obtain ⟨rv, hcell, hints⟩ := HC.out k hlt
        have hmx : Hid ((xss.getD k []).length ≤ maxLen) := HW.out k hlt
        have hlit : Hid (∀ x ∈ xss.getD k [], litB ms.length x = true) := HX.out k hlt
        have hlt' : k < xss.length := by rw [HN.out]; exact hlt
        have hts := all_take_succ (holdsB ms) xss [] k hlt'
        have hfalse := all_false_of (holdsB ms) xss [] k hlt'
        generalize xss.getD k [] = ys at *
        have HI : Hid (IsInts (w.alloc (.cells #[.int .i64 vars, .slice (some ⟨b, off, none⟩) n cap] 25)) rv ys) := hints
        obtain ⟨a1, c1, rfl, _⟩ := hints
        cases hx : holdsB ms ys with
        | true =>
          have HT : Hid ((xss.take (k + 1)).all (holdsB ms) = true) := by
            show (xss.take (k + 1)).all (holdsB ms) = true
            rw [hts, hall.out, hx]; rfl
          have HX1 : Hid (holdsB ms ys = true) := hx
          clear hts hfalse hx hlt'
          go_wp2_with (go_at_call 25; refine (l1Holds_any _ ys _ ms _ HI.out hmx.out (HV.out _) HL.out hlit.out).mono ?_; rintro e w' ⟨rfl, rfl⟩; rw [HX1.out])
          go_round
          case rel => exact ⟨k + 1, by omega, by go_num, HT⟩
          case measure => simp [intOf]; omega
        | false =>
          have HF : Hid (r = false) := by
            show r = false
            rw [← HR.out]; exact hfalse hx
          have HX1 : Hid (holdsB ms ys = false) := hx
          clear hts hfalse hx hlt'
          go_wp2_with (go_at_call 25; refine (l1Holds_any _ ys _ ms _ HI.out hmx.out (HV.out _) HL.out hlit.out).mono ?_; rintro e w' ⟨rfl, rfl⟩; rw [HX1.out])
          go_ret
          exact ⟨ret_bool HF.out.symm, HB.out _⟩
      · have HT : Hid (r = true) := by
          show r = true
          have h := hall.out
          rw [List.take_of_length_le (by have := HN.out; omega)] at h
          rw [← HR.out]; exact h
        go_wp2
        go_ret
        exact ⟨ret_bool HT.out.symm, HB.out _⟩
  · obtain rfl : xss = [] := List.length_eq_zero_iff.1 (by have := HN.out; omega)
    have HT : Hid (r = true) := HR.out.symm
    clear h1 hW0
    go_enter Try.func15, Try.ntmps15
    go_wp2
    go_rounds 1
    go_ret
    exact ⟨ret_bool HT.out.symm, HB.out _⟩

/-- What CnfHolds answers. -/
def cnfHoldsB (vars : Int) (xss : List (List Int)) (ms : List Bool) : Bool := okB vars xss && (decide ((ms.length : Int) = vars) && allB ms xss)

theorem lits_of_ok {vars : Int} {xss : List (List Int)} (h : okB vars xss = true) : ∀ xs ∈ xss, ∀ x ∈ xs, litB vars x = true := by
  unfold okB at h
  simp only [Bool.and_eq_true, List.all_eq_true] at h
  intro xs hxs x hx
  have h2 := h.2 xs hxs
  unfold fitB at h2
  simp only [Bool.and_eq_true, List.all_eq_true] at h2
  exact h2.2 x hx

theorem vars_of_ok {vars : Int} {xss : List (List Int)} (h : okB vars xss = true) : 0 ≤ vars ∧ vars ≤ 60 ∧ xss.length ≤ 150 := by
  unfold okB at h
  simp only [Bool.and_eq_true, decide_eq_true_eq] at h
  exact h.1

set_option maxHeartbeats 1000000 in
theorem implCnfHolds_any (vars : Int) (v1 : Value) (xss : List (List Int)) (v : Value) (ms : List Bool) (w : World) (h1 : IsRows w v1 xss) (hn : xss.length ≤ maxLen) (hm : ∀ i, i < xss.length → (xss.getD i []).length ≤ maxLen) (hv : IsBools w v ms) (hl : ms.length ≤ maxLen) :
    Calls Try.prog 5 #[.agg #[.int .i64 vars, v1], v] w fun e w' => e = .returned (.bool (cnfHoldsB vars xss ms)) ∧ Below w.heap.size w w' := by
  have HM : Hid (∀ i, i < xss.length → (xss.getD i []).length ≤ maxLen) := hm
  have HN : Hid (xss.length ≤ maxLen) := hn
  have HV : Hid (∀ w', Below w.heap.size w w' → IsBools w' v ms) := fun w' h => hv.below h
  have H1 : Hid (∀ w', Below w.heap.size w w' → IsRows w' v1 xss) := fun w' h => h1.below h
  obtain ⟨ao, cap, rfl, _⟩ := h1
  obtain ⟨ao2, cap2, rfl, _⟩ := hv
  clear hm hn
  unfold maxLen at hl
  have hb0 : Hid (Below w.heap.size w (w.alloc (.cells #[.int .i64 vars, .slice ao xss.length cap] 25))) := belOne _ _
  have ht0 : Hid (Two (w.alloc (.cells #[.int .i64 vars, .slice ao xss.length cap] 25)) w.heap.size (.int .i64 vars) (.slice ao xss.length cap)) := Two.new _ _ _ _
  cases hok : okB vars xss with
  | false =>
    have hr : cnfHoldsB vars xss ms = false := by unfold cnfHoldsB; rw [hok]; rfl
    rw [hr]
    have HOK : Hid (okB vars xss = false) := hok
    clear hok hr
    go_enter Try.func5, Try.ntmps5
    go_wp2_with fail
    refine (implCnfOk_any _ _ xss _ (H1.out _ hb0.out) HN.out HM.out).mono ?_
    rintro e w1 ⟨rfl, hb1⟩
    rw [HOK.out]
    have HB1 : Hid (Below w.heap.size w w1) := belNext hb0.out hb1
    clear hb1
    go_wp2
    go_ret
    exact ⟨rfl, HB1.out⟩
  | true =>
    have hlits := lits_of_ok hok
    have hvars := vars_of_ok hok
    have HOK : Hid (okB vars xss = true) := hok
    by_cases hlen : (ms.length : Int) = vars
    · have hr : cnfHoldsB vars xss ms = allB ms xss := by unfold cnfHoldsB; rw [hok, decide_eq_true hlen]; rfl
      rw [hr]
      have HLITS : Hid (∀ xs ∈ xss, ∀ x ∈ xs, litB (ms.length : Int) x = true) := by rw [hlen]; exact hlits
      have hbeq : ((ms.length : Int) == vars) = true := by simpa using hlen
      have HS : Hid (ms.length ≤ 60) := by show ms.length ≤ 60; omega
      clear hok hr hlits hlen hvars
      go_enter Try.func5, Try.ntmps5
      go_wp2_with fail
      refine (implCnfOk_any _ _ xss _ (H1.out _ hb0.out) HN.out HM.out).mono ?_
      rintro e w1 ⟨rfl, hb1⟩
      rw [HOK.out]
      have HB1 : Hid (Below w.heap.size w w1) := belNext hb0.out hb1
      have HT1 : Hid (Two w1 w.heap.size (.int .i64 vars) (.slice ao xss.length cap)) := ht0.out.below hb1
      clear hb1
      have hl1 := HT1.out.lt
      have hc10 := HT1.out.c0
      have hc11 := HT1.out.c1
      go_wp2_with fail
      refine (allHold_any _ xss _ ms _ (H1.out _ HB1.out) HN.out HM.out (HV.out _ HB1.out) HS.out HLITS.out).mono ?_
      rintro e w2 ⟨rfl, rfl⟩
      go_wp2
      go_ret
      exact ⟨rfl, HB1.out⟩
    · have hr : cnfHoldsB vars xss ms = false := by unfold cnfHoldsB; rw [hok, decide_eq_false hlen]; rfl
      rw [hr]
      have hbeq : ((ms.length : Int) == vars) = false := by simpa using hlen
      clear hok hr hlits hlen hvars
      go_enter Try.func5, Try.ntmps5
      go_wp2_with fail
      refine (implCnfOk_any _ _ xss _ (H1.out _ hb0.out) HN.out HM.out).mono ?_
      rintro e w1 ⟨rfl, hb1⟩
      rw [HOK.out]
      have HB1 : Hid (Below w.heap.size w w1) := belNext hb0.out hb1
      have HT1 : Hid (Two w1 w.heap.size (.int .i64 vars) (.slice ao xss.length cap)) := ht0.out.below hb1
      clear hb1
      have hl1 := HT1.out.lt
      have hc10 := HT1.out.c0
      have hc11 := HT1.out.c1
      go_wp2
      go_ret
      exact ⟨rfl, HB1.out⟩

set_option maxHeartbeats 1000000 in
theorem specCnfHolds_any (vars : Int) (v1 : Value) (xss : List (List Int)) (v : Value) (ms : List Bool) (w : World) (h1 : IsRows w v1 xss) (hn : xss.length ≤ maxLen) (hm : ∀ i, i < xss.length → (xss.getD i []).length ≤ maxLen) (hv : IsBools w v ms) (hl : ms.length ≤ maxLen) :
    Calls Try.prog 6 #[.agg #[.int .i64 vars, v1], v] w fun e w' => e = .returned (.bool (cnfHoldsB vars xss ms)) ∧ Below w.heap.size w w' := by
  have HM : Hid (∀ i, i < xss.length → (xss.getD i []).length ≤ maxLen) := hm
  have HN : Hid (xss.length ≤ maxLen) := hn
  have HV : Hid (∀ w', Below w.heap.size w w' → IsBools w' v ms) := fun w' h => hv.below h
  have H1 : Hid (∀ w', Below w.heap.size w w' → IsRows w' v1 xss) := fun w' h => h1.below h
  obtain ⟨ao, cap, rfl, _⟩ := h1
  obtain ⟨ao2, cap2, rfl, _⟩ := hv
  clear hm hn
  unfold maxLen at hl
  have hb0 : Hid (Below w.heap.size w (w.alloc (.cells #[.int .i64 vars, .slice ao xss.length cap] 25))) := belOne _ _
  have ht0 : Hid (Two (w.alloc (.cells #[.int .i64 vars, .slice ao xss.length cap] 25)) w.heap.size (.int .i64 vars) (.slice ao xss.length cap)) := Two.new _ _ _ _
  cases hok : okB vars xss with
  | false =>
    have hr : cnfHoldsB vars xss ms = false := by unfold cnfHoldsB; rw [hok]; rfl
    rw [hr]
    have HOK : Hid (okB vars xss = false) := hok
    clear hok hr
    go_enter Try.func6, Try.ntmps6
    go_wp2_with fail
    refine (specCnfOk_any _ _ xss _ (H1.out _ hb0.out) HN.out HM.out).mono ?_
    rintro e w1 ⟨rfl, hb1⟩
    rw [HOK.out]
    have HB1 : Hid (Below w.heap.size w w1) := belNext hb0.out hb1
    clear hb1
    go_wp2
    go_ret
    exact ⟨rfl, HB1.out⟩
  | true =>
    have hlits := lits_of_ok hok
    have hvars := vars_of_ok hok
    have HOK : Hid (okB vars xss = true) := hok
    by_cases hlen : (ms.length : Int) = vars
    · have hr : cnfHoldsB vars xss ms = allB ms xss := by unfold cnfHoldsB; rw [hok, decide_eq_true hlen]; rfl
      rw [hr]
      have HLITS : Hid (∀ xs ∈ xss, ∀ x ∈ xs, litB (ms.length : Int) x = true) := by rw [hlen]; exact hlits
      have hbeq : ((ms.length : Int) == vars) = true := by simpa using hlen
      have HS : Hid (ms.length ≤ 60) := by show ms.length ≤ 60; omega
      clear hok hr hlits hlen hvars
      go_enter Try.func6, Try.ntmps6
      go_wp2_with fail
      refine (specCnfOk_any _ _ xss _ (H1.out _ hb0.out) HN.out HM.out).mono ?_
      rintro e w1 ⟨rfl, hb1⟩
      rw [HOK.out]
      have HB1 : Hid (Below w.heap.size w w1) := belNext hb0.out hb1
      have HT1 : Hid (Two w1 w.heap.size (.int .i64 vars) (.slice ao xss.length cap)) := ht0.out.below hb1
      clear hb1
      have hl1 := HT1.out.lt
      have hc10 := HT1.out.c0
      have hc11 := HT1.out.c1
      go_wp2_with fail
      refine (l1All_any _ _ xss _ ms _ (H1.out _ HB1.out) HN.out HM.out (HV.out _ HB1.out) HS.out HLITS.out).mono ?_
      rintro e w2 ⟨rfl, hb2⟩
      have HB2 : Hid (Below w.heap.size w w2) := belNext HB1.out hb2
      clear hb2
      go_wp2
      go_ret
      exact ⟨rfl, HB2.out⟩
    · have hr : cnfHoldsB vars xss ms = false := by unfold cnfHoldsB; rw [hok, decide_eq_false hlen]; rfl
      rw [hr]
      have hbeq : ((ms.length : Int) == vars) = false := by simpa using hlen
      clear hok hr hlits hlen hvars
      go_enter Try.func6, Try.ntmps6
      go_wp2_with fail
      refine (specCnfOk_any _ _ xss _ (H1.out _ hb0.out) HN.out HM.out).mono ?_
      rintro e w1 ⟨rfl, hb1⟩
      rw [HOK.out]
      have HB1 : Hid (Below w.heap.size w w1) := belNext hb0.out hb1
      have HT1 : Hid (Two w1 w.heap.size (.int .i64 vars) (.slice ao xss.length cap)) := ht0.out.below hb1
      clear hb1
      have hl1 := HT1.out.lt
      have hc10 := HT1.out.c0
      have hc11 := HT1.out.c1
      go_wp2
      go_ret
      exact ⟨rfl, HB1.out⟩


theorem IsBools.drewN {w : World} {v : Value} {ms : List Bool} (h : IsBools w v ms) (n : Nat) : IsBools (w.drewN n) v ms := h
theorem IsBools.of_row {w : World} {b : Nat} {ms : List Bool} (h : w.rowIs b 4 ms.length (fun j => .bool (ms.getD j false))) : IsBools w (.slice (some ⟨b, 0, none⟩) ms.length ms.length) ms :=
  ⟨_, _, rfl, fun _ => ⟨b, 0, rfl, fun i hi => by rw [Nat.zero_add]; exact h.cell hi⟩⟩

end Go.Proofs.Ytepamfkbeccmaaa
