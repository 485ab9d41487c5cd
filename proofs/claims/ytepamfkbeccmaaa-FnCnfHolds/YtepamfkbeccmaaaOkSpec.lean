/-
  The model's CnfOk is the same plain function of what the clauses are.
-/
import Derived.Test.YtepamfkbeccmaaaOk
namespace Go.Proofs.Ytepamfkbeccmaaa
open Go.RowKit Go.Deep

set_option maxHeartbeats 400000 in
theorem l1In_any (a b c : Int) (w : World) :
    Calls Try.prog 17 #[.int .i64 a, .int .i64 b, .int .i64 c] w fun e w' => e = .returned (.bool (decide (b ≤ a) && decide (a ≤ c))) ∧ w' = w := by
  by_cases h : b ≤ a
  · by_cases h2 : a ≤ c
    · have hr : (decide (b ≤ a) && decide (a ≤ c)) = true := by simp [h, h2]
      rw [hr]
      go_enter Try.func17, Try.ntmps17
      go_wp2
      go_ret
      exact ⟨rfl, rfl⟩
    · have hr : (decide (b ≤ a) && decide (a ≤ c)) = false := by simp [h2]
      rw [hr]
      go_enter Try.func17, Try.ntmps17
      go_wp2
      go_ret
      exact ⟨rfl, rfl⟩
  · have hr : (decide (b ≤ a) && decide (a ≤ c)) = false := by simp [h]
    rw [hr]
    go_enter Try.func17, Try.ntmps17
    go_wp2
    go_ret
    exact ⟨rfl, rfl⟩

set_option maxHeartbeats 400000 in
theorem l1Lit_any (x vars : Int) (w : World) (h0 : 0 ≤ vars) (h1 : vars ≤ 60) :
    Calls Try.prog 18 #[.int .i64 x, .int .i64 vars] w fun e w' => e = .returned (.bool (litB vars x)) ∧ w' = w := by
  by_cases hx : x = 0
  · have hr : litB vars x = false := by simp [litB, hx]
    rw [hr]
    subst hx
    go_enter Try.func18, Try.ntmps18
    go_wp2
    go_ret
    exact ⟨rfl, rfl⟩
  · have hb : (x == 0) = false := by simpa using hx
    have hb2 : (x != 0) = true := by simpa using hx
    have hr : litB vars x = (decide (-vars ≤ x) && decide (x ≤ vars)) := by simp [litB, hx]
    rw [hr]
    clear hr
    go_enter Try.func18, Try.ntmps18
    go_wp2_with (go_at_call 17; refine (l1In_any _ _ _ _).mono ?_; rintro e w' ⟨rfl, rfl⟩)
    go_ret
    exact ⟨rfl, rfl⟩

set_option maxHeartbeats 1000000 in
theorem specCnfOk_any (vars : Int) (v : Value) (xss : List (List Int)) (w : World) (hv : IsRows w v xss) (hn : xss.length ≤ maxLen) (hm : ∀ i, i < xss.length → (xss.getD i []).length ≤ maxLen) :
    Calls Try.prog 8 #[.agg #[.int .i64 vars, v]] w fun e w' => e = .returned (.bool (okB vars xss)) ∧ Below w.heap.size w w' := by
  have HV : Hid (∀ w', Below w.heap.size w w' → IsRows w' v xss) := fun w' h => hv.below h
  obtain ⟨ao, cap, rfl, hv⟩ := hv
  have HW : Hid (∀ i, i < xss.length → (xss.getD i []).length ≤ maxLen) := hm
  clear hm
  have HL : Hid (xss.length ≤ maxLen) := hn
  unfold maxLen at hn
  have HB : Hid (∀ o, Below w.heap.size w (w.alloc o)) := fun o => (Below.refl _ _).alloc (Nat.le_refl _) _
  by_cases h0 : 0 ≤ vars
  · by_cases h1 : vars ≤ 60
    · have hin : (decide ((0 : Int) ≤ vars) && decide (vars ≤ 60)) = true := by simp [h0, h1]
      have HIN : Hid ((decide ((0 : Int) ≤ vars) && decide (vars ≤ 60)) = true) := hin
      clear hin
      by_cases h2 : xss.length ≤ 150
      · have hr : okB vars xss = xss.all (fitB vars) := by unfold okB; simp [h0, h1, h2]
        rw [hr]
        clear hr
        obtain ⟨r, hr⟩ : ∃ r, xss.all (fitB vars) = r := ⟨_, rfl⟩
        rw [hr]
        have HR : Hid (xss.all (fitB vars) = r) := hr
        clear hr
        generalize hN : xss.length = n at *
        have HN : Hid (xss.length = n) := hN
        clear hN
        by_cases hne : 0 < n
        · obtain ⟨b, off, rfl, hc⟩ := hv (by intro e; have := HN.out; subst e; simp at this; omega)
          have HC : Hid (∀ i, i < n → ∃ r, w.cell? ⟨b, off + i, none⟩ = some r ∧ IsInts w r (xss.getD i [])) := hc
          clear hc hv
          go_enter Try.func8, Try.ntmps8
          go_wp2_with (go_at_call 17; refine (l1In_any _ _ _ _).mono ?_; rintro e w' ⟨rfl, rfl⟩; rw [HIN.out])
          go_loopw [3] (fun i wr => ∃ k : Nat, k ≤ n ∧ i = .int .i64 k ∧ (∃ m, wr = (w.alloc (.cells #[.int .i64 vars, .slice (some ⟨b, off, none⟩) n cap] 25)).drewN m) ∧ Hid ((xss.take k).all (fitB vars) = true)) (fun i _ => n - (intOf i).toNat)
          case atStart => exact ⟨0, Nat.zero_le _, rfl, ⟨0, rfl⟩, rfl⟩
          case round =>
            rename World => wo
            obtain ⟨k, hk, rfl, hwr, hall⟩ := hrel
            have hbx0 : wo.cell? ⟨w.heap.size, 0, none⟩ = some (.int .i64 vars) := by obtain ⟨m, rfl⟩ := hwr; simp
            have hbx1 : wo.cell? ⟨w.heap.size, 1, none⟩ = some (.slice (some ⟨b, off, none⟩) n cap) := by obtain ⟨m, rfl⟩ := hwr; simp
            have hbel : Below w.heap.size w wo := by obtain ⟨m, rfl⟩ := hwr; exact below_drewN (HB.out _) _
            have hsz : w.heap.size < wo.heap.size := by obtain ⟨m, rfl⟩ := hwr; simp
            have HWR : Hid (∃ m, wo = (w.alloc (.cells #[.int .i64 vars, .slice (some ⟨b, off, none⟩) n cap] 25)).drewN m) := hwr
            clear hwr
            by_cases hlt : k < n
            · obtain ⟨rv, hcell0, hints0⟩ := HC.out k hlt
              have hcell : wo.cell? ⟨b, off + k, none⟩ = some rv := (hbel.cell (cell_lt hcell0)).trans hcell0
              have hints := hints0.below hbel
              have hmx := HW.out k hlt
              have hlt' : k < xss.length := by rw [HN.out]; exact hlt
              have hts := all_take_succ (fitB vars) xss [] k hlt'
              have hfalse := all_false_of (fitB vars) xss [] k hlt'
              generalize xss.getD k [] = ys at *
              clear hcell0 hints0
              obtain ⟨a1, c1, rfl, hints⟩ := hints
              unfold maxLen at hmx
              have HTS : Hid ((xss.take (k + 1)).all (fitB vars) = ((xss.take k).all (fitB vars) && fitB vars ys)) := hts
              have HFA : Hid (fitB vars ys = false → xss.all (fitB vars) = false) := hfalse
              have HBEL : Hid (Below w.heap.size w wo) := hbel
              clear hts hfalse hlt' hbel
              by_cases h8 : ys.length ≤ 8
              · generalize hM : ys.length = len at *
                have HM : Hid (ys.length = len) := hM
                clear hM
                by_cases hpos : 0 < len
                · obtain ⟨b1, off1, rfl, hc1⟩ := hints (by intro e; have := HM.out; subst e; simp at this; omega)
                  have HC1 : Hid (∀ i, i < len → wo.cell? ⟨b1, off1 + i, none⟩ = some (.int .i64 (ys.getD i 0))) := hc1
                  clear hc1 hints
                  go_wp2
                  go_loopw [4] (fun j wi => ∃ q : Nat, q ≤ len ∧ j = .int .i64 q ∧ (∃ m, wi = wo.drewN m) ∧ Hid ((ys.take q).all (litB vars) = true)) (fun j _ => len - (intOf j).toNat)
                  case atStart => exact ⟨0, Nat.zero_le _, rfl, ⟨0, rfl⟩, rfl⟩
                  case round =>
                    rename World => wi
                    obtain ⟨q, hq, rfl, hwi, hall1⟩ := hrel
                    have hbx0' : wi.cell? ⟨w.heap.size, 0, none⟩ = some (.int .i64 vars) := by obtain ⟨m, rfl⟩ := hwi; exact hbx0
                    have hbx1' : wi.cell? ⟨w.heap.size, 1, none⟩ = some (.slice (some ⟨b, off, none⟩) n cap) := by obtain ⟨m, rfl⟩ := hwi; exact hbx1
                    have hcell' : wi.cell? ⟨b, off + k, none⟩ = some (.slice (some ⟨b1, off1, none⟩) len c1) := by obtain ⟨m, rfl⟩ := hwi; exact hcell
                    have hsz' : w.heap.size < wi.heap.size := by obtain ⟨m, rfl⟩ := hwi; exact hsz
                    have HWI : Hid (∃ m, wi = wo.drewN m) := hwi
                    by_cases hql : q < len
                    · have hd : wi.cell? ⟨b1, off1 + q, none⟩ = some (.int .i64 (ys.getD q 0)) := by obtain ⟨m, rfl⟩ := hwi; exact HC1.out q hql
                      clear hwi
                      have hql' : q < ys.length := by rw [HM.out]; exact hql
                      have hts := all_take_succ (litB vars) ys 0 q hql'
                      have hfalse := all_false_of (litB vars) ys 0 q hql'
                      generalize ys.getD q 0 = x at *
                      cases hx : litB vars x with
                      | true =>
                        have HT : Hid ((ys.take (q + 1)).all (litB vars) = true) := by
                          show (ys.take (q + 1)).all (litB vars) = true
                          rw [hts, hall1.out, hx]; rfl
                        have HX : Hid (litB vars x = true) := hx
                        clear hts hfalse hx hql'
                        go_wp2
                        go_quiet ((go_at_call 18; exact Calls.quiet_of_same (l1Lit_any _ _ _ h0 h1)))
                        rw [HX.out]
                        go_wp2
                        go_roundw
                        case rel => exact ⟨q + 1, by omega, by go_num, drewN_more HWI.out _, HT⟩
                        case measure => simp [intOf]; omega
                      | false =>
                        have HF : Hid (r = false) := by
                          show r = false
                          rw [← HR.out]; exact HFA.out (by unfold fitB; rw [hfalse hx]; simp)
                        have HX : Hid (litB vars x = false) := hx
                        clear hts hfalse hx hql'
                        go_wp2
                        go_quiet ((go_at_call 18; exact Calls.quiet_of_same (l1Lit_any _ _ _ h0 h1)))
                        rw [HX.out]
                        go_wp2
                        go_ret
                        exact ⟨ret_bool HF.out.symm, by obtain ⟨m, hm⟩ := HWI.out; subst hm; exact below_drewN (below_drewN HBEL.out _) _⟩
                    · clear hwi
                      have HT : Hid ((xss.take (k + 1)).all (fitB vars) = true) := by
                        show (xss.take (k + 1)).all (fitB vars) = true
                        have h := hall1.out
                        rw [List.take_of_length_le (by have := HM.out; omega)] at h
                        rw [HTS.out, hall.out]; unfold fitB; rw [h]; have := HM.out; simp; omega
                      have HW2 : Hid (∃ m, wi = (w.alloc (.cells #[.int .i64 vars, .slice (some ⟨b, off, none⟩) n cap] 25)).drewN m) := by
                        obtain ⟨m, hm⟩ := HWI.out
                        rw [hm]; exact drewN_more HWR.out m
                      go_wp2
                      go_roundw
                      case rel => exact ⟨k + 1, by omega, by go_num, HW2.out, HT⟩
                      case measure => simp [intOf]; omega
                · have HT : Hid ((xss.take (k + 1)).all (fitB vars) = true) := by
                    show (xss.take (k + 1)).all (fitB vars) = true
                    have : ys = [] := List.length_eq_zero_iff.1 (by have := HM.out; omega)
                    rw [HTS.out, hall.out, this]; rfl
                  clear hints
                  go_wp2
                  go_rounds 1
                  go_roundw
                  case rel => exact ⟨k + 1, by omega, by go_num, HWR.out, HT⟩
                  case measure => simp [intOf]; omega
              · have HF : Hid (r = false) := by
                  show r = false
                  rw [← HR.out]; exact HFA.out (by unfold fitB; simp [h8])
                go_wp2
                go_ret
                exact ⟨ret_bool HF.out.symm, HBEL.out⟩
            · have HT : Hid (r = true) := by
                show r = true
                have h := hall.out
                rw [List.take_of_length_le (by have := HN.out; omega)] at h
                rw [← HR.out]; exact h
              have HBEL : Hid (Below w.heap.size w wo) := hbel
              clear hbel
              go_wp2
              go_ret
              exact ⟨ret_bool HT.out.symm, HBEL.out⟩
        · obtain rfl : xss = [] := List.length_eq_zero_iff.1 (by have := HN.out; omega)
          have HT : Hid (r = true) := HR.out.symm
          clear hv
          go_enter Try.func8, Try.ntmps8
          go_wp2_with (go_at_call 17; refine (l1In_any _ _ _ _).mono ?_; rintro e w' ⟨rfl, rfl⟩; rw [HIN.out])
          go_rounds 1
          go_ret
          exact ⟨ret_bool HT.out.symm, HB.out _⟩
      · have hr : okB vars xss = false := by unfold okB; simp [h2]
        rw [hr]
        clear hr hv
        go_enter Try.func8, Try.ntmps8
        go_wp2_with (go_at_call 17; refine (l1In_any _ _ _ _).mono ?_; rintro e w' ⟨rfl, rfl⟩; rw [HIN.out])
        go_ret
        exact ⟨rfl, HB.out _⟩
    · have hr : okB vars xss = false := by unfold okB; simp [h1]
      rw [hr]
      clear hr hv
      have HIN : Hid ((decide ((0 : Int) ≤ vars) && decide (vars ≤ 60)) = false) := by simp [Hid, h1]
      go_enter Try.func8, Try.ntmps8
      go_wp2_with (go_at_call 17; refine (l1In_any _ _ _ _).mono ?_; rintro e w' ⟨rfl, rfl⟩; rw [HIN.out])
      go_ret
      exact ⟨rfl, HB.out _⟩
  · have hr : okB vars xss = false := by unfold okB; simp [h0]
    rw [hr]
    clear hr hv
    have HIN : Hid ((decide ((0 : Int) ≤ vars) && decide (vars ≤ 60)) = false) := by simp [Hid, h0]
    go_enter Try.func8, Try.ntmps8
    go_wp2_with (go_at_call 17; refine (l1In_any _ _ _ _).mono ?_; rintro e w' ⟨rfl, rfl⟩; rw [HIN.out])
    go_ret
    exact ⟨rfl, HB.out _⟩

end Go.Proofs.Ytepamfkbeccmaaa
