/-
  The law FnCnfHolds: walked.
-/
import Derived.Test.YtepamfkbeccmaaaLaw1a
import Derived.Deep.RegionHeld3
import Derived.Deep.RegionWith
import Derived.Deep.DeepCutAuto
namespace Go.Proofs.Ytepamfkbeccmaaa
open Go.RowKit Go.Deep
set_option linter.unusedVariables false

set_option maxRecDepth 100000 in
set_option maxHeartbeats 16000000 in
theorem fnCnfHolds_walk (v : Value) (bs : List Int) (w : World) (hv : IsBytes w v bs) (hal : ∀ ao n cap b off, v = .slice ao n cap → ao = some ⟨b, off, none⟩ → b < w.heap.size) (hm : bs.length ≤ maxLen) :
    Calls Try.prog 3 #[v] w fun e w' => e = .returned (.bool true) ∧ Below w.heap.size w w' := by
  have HV0 : Hid (IsBytes w v bs) := hv
  have HAL : Hid (∀ ao n cap b off, v = .slice ao n cap → ao = some ⟨b, off, none⟩ → b < w.heap.size) := hal
  obtain ⟨aoc, capc, rfl, _⟩ := hv
  clear hal
  unfold maxLen at hm
  by_cases hbig : bs.length ≤ 1048576
  · go_enter Try.func3, Try.ntmps3
    go_wp2_with fail
    refine (drawCnfHolds_any _ bs _ HV0.out hbig HAL.out).mono ?_
    rintro e w0 ⟨vars, ao, cap, css, ao2, cap2, ms, rfl, hrows, hcl, hthin, hbools, hml, hb0⟩
    have HROW : Hid (IsRows w0 (.slice ao css.length cap) css) := hrows
    have HMS : Hid (IsBools w0 (.slice ao2 ms.length cap2) ms) := hbools
    have HL : Hid (css.length ≤ maxLen) := by show css.length ≤ maxLen; unfold maxLen; omega
    have HML : Hid (ms.length ≤ maxLen) := by show ms.length ≤ maxLen; unfold maxLen; omega
    have HTH : Hid (∀ i, i < css.length → (css.getD i []).length ≤ maxLen) := fun i hi => by have := hthin i hi; unfold maxLen; omega
    obtain ⟨W1, hW1⟩ : ∃ W1, W1 = w0.alloc (.cells #[.int .i64 vars, .slice ao css.length cap] 25) := ⟨_, rfl⟩
    have HT1 : Hid (Two W1 w0.heap.size (.int .i64 vars) (.slice ao css.length cap)) := by rw [hW1]; exact Two.new _ _ _ _
    have HBW : Hid (Below w.heap.size w W1) := by rw [hW1]; exact belNext hb0 (belOne _ _)
    have HV : Hid (∀ w', Below W1.heap.size W1 w' → IsRows w' (.slice ao css.length cap) css) := fun w' h => by subst hW1; exact HROW.out.below (belNext (belOne _ _) h)
    have HU : Hid (∀ w', Below W1.heap.size W1 w' → IsBools w' (.slice ao2 ms.length cap2) ms) := fun w' h => by subst hW1; exact HMS.out.below (belNext (belOne _ _) h)
    clear hrows hbools hthin hb0
    have HB1 : Hid (Below W1.heap.size W1 W1) := Below.refl _ _
    obtain ⟨ok, hok⟩ : ∃ ok, cnfHoldsB vars css ms = ok := ⟨_, rfl⟩
    have HOK : Hid (cnfHoldsB vars css ms = ok) := hok
    obtain ⟨oo, hoo⟩ : ∃ oo, okB vars css = oo := ⟨_, rfl⟩
    have HOO : Hid (okB vars css = oo) := hoo
    clear hok hoo
    have HW1 : Hid (W1 = w0.alloc (.cells #[.int .i64 vars, .slice ao css.length cap] 25)) := hW1
    clear hW1
    go_wp2_with fail
    rw [← HW1.out]
    refine (implCnfHolds_any _ _ css _ ms _ (HV.out _ HB1.out) HL.out HTH.out (HU.out _ HB1.out) HML.out).mono ?_
    rintro e w2 ⟨he, hb2⟩
    rw [HOK.out] at he
    subst he
    have HB2 : Hid (Below W1.heap.size W1 w2) := hb2
    have HT2 : Hid (Two w2 w0.heap.size (.int .i64 vars) (.slice ao css.length cap)) := HT1.out.below hb2
    clear hb2
    have c20 := HT2.out.c0
    have c21 := HT2.out.c1
    have c22 := HT2.out.lt
    cases oo with
    | false =>
      go_wp2_with fail
      go_cut [42] (fun s wc => s = .bool true ∧ Hid (Below W1.heap.size W1 wc))
      case first =>
        first
          | go_region_with (first
              | (go_at_call 6; refine (specCnfHolds_any _ _ css _ ms _ (HV.out _ (by first | exact HB2.out | exact HB2.out.drew)) HL.out HTH.out (HU.out _ (by first | exact HB2.out | exact HB2.out.drew)) HML.out).mono ?_; rintro e w3 ⟨he, hbz⟩; rw [HOK.out] at he; subst he; have HB3 : Hid (Below W1.heap.size W1 w3) := belNext HB2.out (by first | exact hbz | exact undrew hbz); have HT3 : Hid (Two w3 w0.heap.size (.int .i64 vars) (.slice ao css.length cap)) := HT2.out.below (by first | exact hbz | exact undrew hbz); have c30 := HT3.out.c0; have c31 := HT3.out.c1; have c32 := HT3.out.lt; clear hbz)
              | (go_at_call 7; refine (implCnfOk_any _ _ css _ (HV.out _ (by first | exact HB3.out | exact HB3.out.drew)) HL.out HTH.out).mono ?_; rintro e w4 ⟨he, hbz⟩; rw [HOO.out] at he; subst he; have HB4 : Hid (Below W1.heap.size W1 w4) := belNext HB3.out (by first | exact hbz | exact undrew hbz); have HT4 : Hid (Two w4 w0.heap.size (.int .i64 vars) (.slice ao css.length cap)) := HT3.out.below (by first | exact hbz | exact undrew hbz); have c40 := HT4.out.c0; have c41 := HT4.out.c1; have c42 := HT4.out.lt; clear hbz)
              | (go_at_call 7; refine (implCnfOk_any _ _ css _ (HV.out _ (by first | exact HB4.out | exact HB4.out.drew)) HL.out HTH.out).mono ?_; rintro e w5 ⟨he, hbz⟩; rw [HOO.out] at he; subst he; have HB5 : Hid (Below W1.heap.size W1 w5) := belNext HB4.out (by first | exact hbz | exact undrew hbz); have HT5 : Hid (Two w5 w0.heap.size (.int .i64 vars) (.slice ao css.length cap)) := HT4.out.below (by first | exact hbz | exact undrew hbz); have c50 := HT5.out.c0; have c51 := HT5.out.c1; have c52 := HT5.out.lt; clear hbz)
              | (go_at_call 8; refine (specCnfOk_any _ _ css _ (HV.out _ (by first | exact HB3.out | exact HB3.out.drew)) HL.out HTH.out).mono ?_; rintro e w4 ⟨he, hbz⟩; rw [HOO.out] at he; subst he; have HB4 : Hid (Below W1.heap.size W1 w4) := belNext HB3.out (by first | exact hbz | exact undrew hbz); have HT4 : Hid (Two w4 w0.heap.size (.int .i64 vars) (.slice ao css.length cap)) := HT3.out.below (by first | exact hbz | exact undrew hbz); have c40 := HT4.out.c0; have c41 := HT4.out.c1; have c42 := HT4.out.lt; clear hbz)
              | (go_at_call 8; refine (specCnfOk_any _ _ css _ (HV.out _ (by first | exact HB4.out | exact HB4.out.drew)) HL.out HTH.out).mono ?_; rintro e w5 ⟨he, hbz⟩; rw [HOO.out] at he; subst he; have HB5 : Hid (Below W1.heap.size W1 w5) := belNext HB4.out (by first | exact hbz | exact undrew hbz); have HT5 : Hid (Two w5 w0.heap.size (.int .i64 vars) (.slice ao css.length cap)) := HT4.out.below (by first | exact hbz | exact undrew hbz); have c50 := HT5.out.c0; have c51 := HT5.out.c1; have c52 := HT5.out.lt; clear hbz)
              | (go_at_call 8; refine (specCnfOk_any _ _ css _ (HV.out _ (by first | exact HB5.out | exact HB5.out.drew)) HL.out HTH.out).mono ?_; rintro e w6 ⟨he, hbz⟩; rw [HOO.out] at he; subst he; have HB6 : Hid (Below W1.heap.size W1 w6) := belNext HB5.out (by first | exact hbz | exact undrew hbz); have HT6 : Hid (Two w6 w0.heap.size (.int .i64 vars) (.slice ao css.length cap)) := HT5.out.below (by first | exact hbz | exact undrew hbz); have c60 := HT6.out.c0; have c61 := HT6.out.c1; have c62 := HT6.out.lt; clear hbz))
          | fail
        all_goals
          go_wp2_with fail
          go_meet
          case rel => exact ⟨by first | rfl | rw [HLB.out], HB6⟩
      case rest =>
        rename World => w6
        obtain ⟨rfl, HB6⟩ := hcut
        have HT6 : Hid (Two w6 w0.heap.size (.int .i64 vars) (.slice ao css.length cap)) := HT1.out.below HB6.out
        clear c20 c21 c22
        have c60 := HT6.out.c0
        have c61 := HT6.out.c1
        have c62 := HT6.out.lt
        go_wp2_with fail
        go_region_held3 (fun w' => w'.cell? ⟨w0.heap.size, 0, none⟩ = some (.int .i64 vars) ∧ w'.cell? ⟨w0.heap.size, 1, none⟩ = some (.slice ao css.length cap) ∧ w0.heap.size < w'.heap.size)
            (first | exact ⟨by assumption, by assumption, by assumption⟩ | (go_keep; done) | (go_keep; omega))
            (first
              | (go_simp; go_at_call 6; refine (specCnfHolds_any _ _ css _ ms _ (HV.out _ (by first | exact HB6.out | exact HB6.out.drew)) HL.out HTH.out (HU.out _ (by first | exact HB6.out | exact HB6.out.drew)) HML.out).mono ?_; rintro e w7 ⟨he, hbz⟩; rw [HOK.out] at he; subst he; have HB7 : Hid (Below W1.heap.size W1 w7) := belNext HB6.out (by first | exact hbz | exact undrew hbz); have HT7 : Hid (Two w7 w0.heap.size (.int .i64 vars) (.slice ao css.length cap)) := HT6.out.below (by first | exact hbz | exact undrew hbz); have c70 := HT7.out.c0; have c71 := HT7.out.c1; have c72 := HT7.out.lt; clear hbz)
              | (go_simp; go_at_call 7; refine (implCnfOk_any _ _ css _ (HV.out _ (by first | exact HB7.out | exact HB7.out.drew)) HL.out HTH.out).mono ?_; rintro e w8 ⟨he, hbz⟩; rw [HOO.out] at he; subst he; have HB8 : Hid (Below W1.heap.size W1 w8) := belNext HB7.out (by first | exact hbz | exact undrew hbz); have HT8 : Hid (Two w8 w0.heap.size (.int .i64 vars) (.slice ao css.length cap)) := HT7.out.below (by first | exact hbz | exact undrew hbz); have c80 := HT8.out.c0; have c81 := HT8.out.c1; have c82 := HT8.out.lt; clear hbz)
              | (go_simp; go_at_call 7; refine (implCnfOk_any _ _ css _ (HV.out _ (by first | exact HB8.out | exact HB8.out.drew)) HL.out HTH.out).mono ?_; rintro e w9 ⟨he, hbz⟩; rw [HOO.out] at he; subst he; have HB9 : Hid (Below W1.heap.size W1 w9) := belNext HB8.out (by first | exact hbz | exact undrew hbz); have HT9 : Hid (Two w9 w0.heap.size (.int .i64 vars) (.slice ao css.length cap)) := HT8.out.below (by first | exact hbz | exact undrew hbz); have c90 := HT9.out.c0; have c91 := HT9.out.c1; have c92 := HT9.out.lt; clear hbz)
              | (go_simp; go_at_call 8; refine (specCnfOk_any _ _ css _ (HV.out _ (by first | exact HB7.out | exact HB7.out.drew)) HL.out HTH.out).mono ?_; rintro e w8 ⟨he, hbz⟩; rw [HOO.out] at he; subst he; have HB8 : Hid (Below W1.heap.size W1 w8) := belNext HB7.out (by first | exact hbz | exact undrew hbz); have HT8 : Hid (Two w8 w0.heap.size (.int .i64 vars) (.slice ao css.length cap)) := HT7.out.below (by first | exact hbz | exact undrew hbz); have c80 := HT8.out.c0; have c81 := HT8.out.c1; have c82 := HT8.out.lt; clear hbz)
              | (go_simp; go_at_call 8; refine (specCnfOk_any _ _ css _ (HV.out _ (by first | exact HB8.out | exact HB8.out.drew)) HL.out HTH.out).mono ?_; rintro e w9 ⟨he, hbz⟩; rw [HOO.out] at he; subst he; have HB9 : Hid (Below W1.heap.size W1 w9) := belNext HB8.out (by first | exact hbz | exact undrew hbz); have HT9 : Hid (Two w9 w0.heap.size (.int .i64 vars) (.slice ao css.length cap)) := HT8.out.below (by first | exact hbz | exact undrew hbz); have c90 := HT9.out.c0; have c91 := HT9.out.c1; have c92 := HT9.out.lt; clear hbz))
        all_goals
          go_wp2
          go_ret
          exact ⟨rfl, HBW.out.trans (HB9.out.mono HBW.out.size)⟩
    | true =>
      by_cases hlen : (ms.length : Int) = vars
      · have hlb : ((ms.length : Int) == vars) = true := by simpa using hlen
        obtain ⟨hvz, hv60, _⟩ := vars_of_ok HOO.out
        have HAO : Hid (allB ms css = ok) := (holds_all HOO.out hlen).symm.trans HOK.out
        have HNIL : Hid (cnfHoldsB vars [] ms = true) := holds_nil hvz hv60 hlen
        have HONEH : Hid (∀ k, k < css.length → cnfHoldsB vars [css.getD k []] ms = allB ms [css.getD k []]) := fun k hk => holds_one HOO.out hlen k hk
        have HALLS : Hid (∀ k, k < css.length → allB ms (css.take (k + 1)) = (allB ms (css.take k) && allB ms [css.getD k []])) := fun k hk => allB_snoc ms css k hk
        go_wp2_with fail
        go_cut [42] (fun s wc => s = .bool false ∧ Hid (Below W1.heap.size W1 wc))
        case first =>
          go_region_held3 (fun w' => w'.cell? ⟨w0.heap.size, 0, none⟩ = some (.int .i64 vars) ∧ w'.cell? ⟨w0.heap.size, 1, none⟩ = some (.slice ao css.length cap) ∧ w0.heap.size < w'.heap.size)
              (first | exact ⟨by assumption, by assumption, by assumption⟩ | (go_keep; done) | (go_keep; omega))
              (first
                | (go_simp; go_at_call 6; refine (specCnfHolds_any _ _ css _ ms _ (HV.out _ (by first | exact HB2.out | exact HB2.out.drew)) HL.out HTH.out (HU.out _ (by first | exact HB2.out | exact HB2.out.drew)) HML.out).mono ?_; rintro e w3 ⟨he, hbz⟩; rw [HOK.out] at he; subst he; have HB3 : Hid (Below W1.heap.size W1 w3) := belNext HB2.out (by first | exact hbz | exact undrew hbz); have HT3 : Hid (Two w3 w0.heap.size (.int .i64 vars) (.slice ao css.length cap)) := HT2.out.below (by first | exact hbz | exact undrew hbz); have c30 := HT3.out.c0; have c31 := HT3.out.c1; have c32 := HT3.out.lt; clear hbz)
                | (go_simp; go_at_call 7; refine (implCnfOk_any _ _ css _ (HV.out _ (by first | exact HB3.out | exact HB3.out.drew)) HL.out HTH.out).mono ?_; rintro e w4 ⟨he, hbz⟩; rw [HOO.out] at he; subst he; have HB4 : Hid (Below W1.heap.size W1 w4) := belNext HB3.out (by first | exact hbz | exact undrew hbz); have HT4 : Hid (Two w4 w0.heap.size (.int .i64 vars) (.slice ao css.length cap)) := HT3.out.below (by first | exact hbz | exact undrew hbz); have c40 := HT4.out.c0; have c41 := HT4.out.c1; have c42 := HT4.out.lt; clear hbz)
                | (go_simp; go_at_call 7; refine (implCnfOk_any _ _ css _ (HV.out _ (by first | exact HB4.out | exact HB4.out.drew)) HL.out HTH.out).mono ?_; rintro e w5 ⟨he, hbz⟩; rw [HOO.out] at he; subst he; have HB5 : Hid (Below W1.heap.size W1 w5) := belNext HB4.out (by first | exact hbz | exact undrew hbz); have HT5 : Hid (Two w5 w0.heap.size (.int .i64 vars) (.slice ao css.length cap)) := HT4.out.below (by first | exact hbz | exact undrew hbz); have c50 := HT5.out.c0; have c51 := HT5.out.c1; have c52 := HT5.out.lt; clear hbz)
                | (go_simp; go_at_call 8; refine (specCnfOk_any _ _ css _ (HV.out _ (by first | exact HB3.out | exact HB3.out.drew)) HL.out HTH.out).mono ?_; rintro e w4 ⟨he, hbz⟩; rw [HOO.out] at he; subst he; have HB4 : Hid (Below W1.heap.size W1 w4) := belNext HB3.out (by first | exact hbz | exact undrew hbz); have HT4 : Hid (Two w4 w0.heap.size (.int .i64 vars) (.slice ao css.length cap)) := HT3.out.below (by first | exact hbz | exact undrew hbz); have c40 := HT4.out.c0; have c41 := HT4.out.c1; have c42 := HT4.out.lt; clear hbz)
                | (go_simp; go_at_call 8; refine (specCnfOk_any _ _ css _ (HV.out _ (by first | exact HB4.out | exact HB4.out.drew)) HL.out HTH.out).mono ?_; rintro e w5 ⟨he, hbz⟩; rw [HOO.out] at he; subst he; have HB5 : Hid (Below W1.heap.size W1 w5) := belNext HB4.out (by first | exact hbz | exact undrew hbz); have HT5 : Hid (Two w5 w0.heap.size (.int .i64 vars) (.slice ao css.length cap)) := HT4.out.below (by first | exact hbz | exact undrew hbz); have c50 := HT5.out.c0; have c51 := HT5.out.c1; have c52 := HT5.out.lt; clear hbz)
                | (go_simp; go_at_call 8; refine (specCnfOk_any _ _ css _ (HV.out _ (by first | exact HB5.out | exact HB5.out.drew)) HL.out HTH.out).mono ?_; rintro e w6 ⟨he, hbz⟩; rw [HOO.out] at he; subst he; have HB6 : Hid (Below W1.heap.size W1 w6) := belNext HB5.out (by first | exact hbz | exact undrew hbz); have HT6 : Hid (Two w6 w0.heap.size (.int .i64 vars) (.slice ao css.length cap)) := HT5.out.below (by first | exact hbz | exact undrew hbz); have c60 := HT6.out.c0; have c61 := HT6.out.c1; have c62 := HT6.out.lt; clear hbz))
          all_goals
            go_wp2_with fail
            go_meet
            case rel => exact ⟨by first | rfl | rw [HLB.out], HB6⟩
        case rest =>
          rename World => w6
          obtain ⟨rfl, HB6⟩ := hcut
          have HT6 : Hid (Two w6 w0.heap.size (.int .i64 vars) (.slice ao css.length cap)) := HT1.out.below HB6.out
          clear c20 c21 c22
          have c60 := HT6.out.c0
          have c61 := HT6.out.c1
          have c62 := HT6.out.lt
          go_wp2_with fail
          go_loopw [6, 7] (fun a i wr => ∃ (k : Nat) (ab : Bool), k ≤ css.length ∧ i = .int .i64 k ∧ a = .bool ab ∧ Hid (allB ms (css.take k) = ab) ∧ Below W1.heap.size W1 wr) (fun _ i _ => css.length - (intOf i).toNat)
          case atStart => exact ⟨0, true, Nat.zero_le _, rfl, rfl, by simp [Hid, allB], HB6.out⟩
          case round =>
            rename World => wg
            obtain ⟨k, ab, hk, rfl, rfl, hab, hbr⟩ := hrel
            have HBR : Hid (Below W1.heap.size W1 wg) := hbr
            have HTR : Hid (Two wg w0.heap.size (.int .i64 vars) (.slice ao css.length cap)) := HT1.out.below hbr
            have HRW : Hid (IsRows wg (.slice ao css.length cap) css) := HV.out _ hbr
            clear hbr c60 c61 c62
            have d0 := HTR.out.c0
            have d1 := HTR.out.c1
            have d2 := HTR.out.lt
            by_cases hlt : k < css.length
            · obtain ⟨b, off, rv, hao, hcr, hir⟩ : ∃ b off rv, ao = some ⟨b, off, none⟩ ∧ wg.cell? ⟨b, off + k, none⟩ = some rv ∧ IsInts wg rv (css.getD k []) := by
                obtain ⟨ao', cap', he, h⟩ := HRW.out
                obtain ⟨b, off, ha, hc⟩ := h (by intro e; subst e; simp at hlt)
                obtain ⟨r, h1, h2⟩ := hc k hlt
                injection he with e1 e2 e3
                exact ⟨b, off, r, e1.trans ha, h1, h2⟩
              subst hao
              have d3 : b < wg.heap.size := cell_lt hcr
              obtain ⟨ar, lr, cr, hrv⟩ : ∃ ar lr cr, rv = .slice ar lr cr := by obtain ⟨a, c, h, _⟩ := hir; exact ⟨a, _, c, h⟩
              subst hrv
              have HRV : Hid (∀ w', Below wg.heap.size wg w' → IsInts w' (.slice ar lr cr) (css.getD k [])) := fun w' h => hir.below h
              have HONE : Hid (∀ i, i < [css.getD k []].length → ([css.getD k []].getD i []).length ≤ maxLen) := fun i hi => by
                have : i = 0 := by simp at hi; exact hi
                subst this
                exact HTH.out k hlt
              have HS := HALLS.out k hlt
              have HH := HONEH.out k hlt
              obtain ⟨ob, hob⟩ : ∃ ob, allB ms [css.getD k []] = ob := ⟨_, rfl⟩
              rw [hob] at HS HH
              have HH1 : Hid (cnfHoldsB vars [css.getD k []] ms = ob) := HH
              rw [hab.out] at HS
              have HS1 : Hid (allB ms (css.take (k + 1)) = (ab && ob)) := HS
              clear hob HS HH hir
              cases ab with
              | false =>
                go_wp2_with fail
                refine wp_region_held_drew (S := fun _ => True) (by kernel_rfl) trivial (fun _ => ?_)
                refine wpAnyH_take (i := 0) (v := .bool false) rfl (by kernel_rfl) (by kernel_rfl) (by kernel_rfl) (fun _ _ _ h => h) (Or.inl ⟨by rfl, fun w _ => by go_simp⟩) trivial ?_
                try simp only [List.getElem_toArray, List.getElem_cons_zero, Act.put, List.setIfInBounds_toArray, List.set_cons_zero, List.set_cons_succ]
                refine wpAnyH_take (i := 1) (v := .bool false) rfl (by kernel_rfl) (by kernel_rfl) (by kernel_rfl) (fun _ _ _ h => h) (Or.inl ⟨by rfl, fun w _ => by go_simp⟩) trivial ?_
                try simp only [List.getElem_toArray, List.getElem_cons_zero, List.getElem_cons_succ, Act.put, List.setIfInBounds_toArray, List.set_cons_zero, List.set_cons_succ]
                refine wpAnyH_take (i := 2) (v := undef) rfl (by kernel_rfl) (by kernel_rfl) (by kernel_rfl) (fun _ _ _ h => h) (Or.inr ⟨by rfl, rfl⟩) trivial ?_
                try simp only [List.getElem_toArray, List.getElem_cons_zero, List.getElem_cons_succ, Act.put, List.setIfInBounds_toArray, List.set_cons_zero, List.set_cons_succ]
                refine wpAnyH_take (i := 3) (v := undef) rfl (by kernel_rfl) (by kernel_rfl) (by kernel_rfl) (fun _ _ _ h => h) (Or.inr ⟨by rfl, rfl⟩) trivial ?_
                try simp only [List.getElem_toArray, List.getElem_cons_zero, List.getElem_cons_succ, Act.put, List.setIfInBounds_toArray, List.set_cons_zero, List.set_cons_succ]
                refine wpAnyH_take (i := 4) (v := undef) rfl (by kernel_rfl) (by kernel_rfl) (by kernel_rfl) (fun _ _ _ h => h) (Or.inr ⟨by rfl, rfl⟩) trivial ?_
                try simp only [List.getElem_toArray, List.getElem_cons_zero, List.getElem_cons_succ, Act.put, List.setIfInBounds_toArray, List.set_cons_zero, List.set_cons_succ]
                refine wpAnyH_take (i := 5) (v := undef) rfl (by kernel_rfl) (by kernel_rfl) (by kernel_rfl) (fun _ _ _ h => h) (Or.inr ⟨by rfl, rfl⟩) trivial ?_
                try simp only [List.getElem_toArray, List.getElem_cons_zero, List.getElem_cons_succ, Act.put, List.setIfInBounds_toArray, List.set_cons_zero, List.set_cons_succ]
                refine wpAnyH_take (i := 6) (v := undef) rfl (by kernel_rfl) (by kernel_rfl) (by kernel_rfl) (fun _ _ _ h => h) (Or.inr ⟨by rfl, rfl⟩) trivial ?_
                try simp only [List.getElem_toArray, List.getElem_cons_zero, List.getElem_cons_succ, Act.put, List.setIfInBounds_toArray, List.set_cons_zero, List.set_cons_succ]
                refine wpAnyH_take (i := 7) (v := undef) rfl (by kernel_rfl) (by kernel_rfl) (by kernel_rfl) (fun _ _ _ h => h) (Or.inr ⟨by rfl, rfl⟩) trivial ?_
                try simp only [List.getElem_toArray, List.getElem_cons_zero, List.getElem_cons_succ, Act.put, List.setIfInBounds_toArray, List.set_cons_zero, List.set_cons_succ]
                refine wpAnyH_take (i := 8) (v := undef) rfl (by kernel_rfl) (by kernel_rfl) (by kernel_rfl) (fun _ _ _ h => h) (Or.inr ⟨by rfl, rfl⟩) trivial ?_
                try simp only [List.getElem_toArray, List.getElem_cons_zero, List.getElem_cons_succ, Act.put, List.setIfInBounds_toArray, List.set_cons_zero, List.set_cons_succ]
                refine wpAnyH_take (i := 9) (v := undef) rfl (by kernel_rfl) (by kernel_rfl) (by kernel_rfl) (fun _ _ _ h => h) (Or.inr ⟨by rfl, rfl⟩) trivial ?_
                try simp only [List.getElem_toArray, List.getElem_cons_zero, List.getElem_cons_succ, Act.put, List.setIfInBounds_toArray, List.set_cons_zero, List.set_cons_succ]
                refine wpAnyH_take (i := 10) (v := undef) rfl (by kernel_rfl) (by kernel_rfl) (by kernel_rfl) (fun _ _ _ h => h) (Or.inr ⟨by rfl, rfl⟩) trivial ?_
                try simp only [List.getElem_toArray, List.getElem_cons_zero, List.getElem_cons_succ, Act.put, List.setIfInBounds_toArray, List.set_cons_zero, List.set_cons_succ]
                refine wpAnyH_take (i := 11) (v := undef) rfl (by kernel_rfl) (by kernel_rfl) (by kernel_rfl) (fun _ _ _ h => h) (Or.inr ⟨by rfl, rfl⟩) trivial ?_
                try simp only [List.getElem_toArray, List.getElem_cons_zero, List.getElem_cons_succ, Act.put, List.setIfInBounds_toArray, List.set_cons_zero, List.set_cons_succ]
                refine wpAnyH_take (i := 12) (v := undef) rfl (by kernel_rfl) (by kernel_rfl) (by kernel_rfl) (fun _ _ _ h => h) (Or.inr ⟨by rfl, rfl⟩) trivial ?_
                try simp only [List.getElem_toArray, List.getElem_cons_zero, List.getElem_cons_succ, Act.put, List.setIfInBounds_toArray, List.set_cons_zero, List.set_cons_succ]
                refine wpAnyH_take (i := 13) (v := .bool false) rfl (by kernel_rfl) (by kernel_rfl) (by kernel_rfl) (fun _ _ _ h => h) (Or.inl ⟨by rfl, fun w _ => by go_simp⟩) trivial ?_
                try simp only [List.getElem_toArray, List.getElem_cons_zero, List.getElem_cons_succ, Act.put, List.setIfInBounds_toArray, List.set_cons_zero, List.set_cons_succ]
                refine wpAnyH_take (i := 14) (v := .bool false) rfl (by kernel_rfl) (by kernel_rfl) (by kernel_rfl) (fun _ _ _ h => h) (Or.inl ⟨by rfl, fun w _ => by go_simp⟩) trivial ?_
                try simp only [List.getElem_toArray, List.getElem_cons_zero, List.getElem_cons_succ, Act.put, List.setIfInBounds_toArray, List.set_cons_zero, List.set_cons_succ]
                refine wpAnyH_done (by kernel_rfl) ?_ _
                all_goals
                  go_wp2
                  go_roundw
                  case rel => exact ⟨k + 1, false, by omega, by go_num, rfl, HS1.out, by first | exact HBR.out | exact HBR.out.drew⟩
                  case measure => simp [intOf]; omega
              | true =>
                go_wp2_with fail
                go_region_held3 (fun w' => w'.cell? ⟨w0.heap.size, 0, none⟩ = some (.int .i64 vars) ∧ w'.cell? ⟨w0.heap.size, 1, none⟩ = some (.slice (some ⟨b, off, none⟩) css.length cap) ∧ w0.heap.size < w'.heap.size ∧ w'.cell? ⟨b, off + k, none⟩ = some (.slice ar lr cr) ∧ b < w'.heap.size)
                      (first | exact ⟨by assumption, by assumption, by assumption, by assumption, by assumption⟩ | (go_keep; done) | (go_keep; omega))
                      (first
                        | (go_simp; go_at_call 5; refine (implCnfHolds_any _ _ [css.getD k []] _ ms _ (isRows_one (r := .slice ar lr cr) (by simp) (HRV.out _ (by first | exact belOne _ _ | exact belD1 _ _ | exact (Below.refl _ _).drew.trans (belOne _ _)))) (by simp [maxLen]) HONE.out (HU.out _ (by first | exact belNext HBR.out (belOne _ _) | exact belNext HBR.out (belD1 _ _) | exact belNext HBR.out ((Below.refl _ _).drew.trans (belOne _ _)))) HML.out).mono ?_; rintro e w8 ⟨he, hbz⟩; rw [HH1.out] at he; subst he; have HG8 : Hid (Below wg.heap.size wg w8) := (by first | exact belNext (belOne _ _) hbz | exact belNext (belD1 _ _) hbz | exact belNext ((Below.refl _ _).drew.trans (belOne _ _)) hbz); have HB8 : Hid (Below W1.heap.size W1 w8) := belNext HBR.out HG8.out; have HT8 : Hid (Two w8 w0.heap.size (.int .i64 vars) (.slice (some ⟨b, off, none⟩) css.length cap)) := HTR.out.below HG8.out; have c80 := HT8.out.c0; have c81 := HT8.out.c1; have c82 := HT8.out.lt; have c83 := (HG8.out.cell (p := ⟨b, off + k, none⟩) d3).trans hcr; have c84 : b < w8.heap.size := Nat.lt_of_lt_of_le d3 HG8.out.size; clear hbz))
                all_goals
                  go_wp2
                  go_roundw
                  case rel => exact ⟨k + 1, ob, by omega, by go_num, rfl, HS1.out, HB8.out⟩
                  case measure => simp [intOf]; omega
            · obtain rfl : k = css.length := by omega
              have hao : ab = ok := by have h1 := hab.out; rw [List.take_length] at h1; exact h1.symm.trans HAO.out
              subst hao
              go_wp2_with fail
              refine (implCnfHolds_any _ _ [] _ ms _ (isRows_nil _ _ _) (by simp [maxLen]) (fun i hi => by simp at hi) (HU.out _ HBR.out) HML.out).mono ?_
              rintro e w9 ⟨he, hbz⟩
              rw [HNIL.out] at he
              subst he
              have HB9 : Hid (Below W1.heap.size W1 w9) := belNext HBR.out hbz
              clear hbz
              go_wp2
              go_ret
              exact ⟨rfl, HBW.out.trans (HB9.out.mono HBW.out.size)⟩
      · have hlb : ((ms.length : Int) != vars) = true := by simpa using hlen
        have HLB : Hid (((ms.length : Int) != vars) = true) := hlb
        go_wp2_with fail
        go_cut [42] (fun s wc => s = .bool true ∧ Hid (Below W1.heap.size W1 wc))
        case first =>
          go_region_held3 (fun w' => w'.cell? ⟨w0.heap.size, 0, none⟩ = some (.int .i64 vars) ∧ w'.cell? ⟨w0.heap.size, 1, none⟩ = some (.slice ao css.length cap) ∧ w0.heap.size < w'.heap.size)
              (first | exact ⟨by assumption, by assumption, by assumption⟩ | (go_keep; done) | (go_keep; omega))
              (first
                | (go_simp; go_at_call 6; refine (specCnfHolds_any _ _ css _ ms _ (HV.out _ (by first | exact HB2.out | exact HB2.out.drew)) HL.out HTH.out (HU.out _ (by first | exact HB2.out | exact HB2.out.drew)) HML.out).mono ?_; rintro e w3 ⟨he, hbz⟩; rw [HOK.out] at he; subst he; have HB3 : Hid (Below W1.heap.size W1 w3) := belNext HB2.out (by first | exact hbz | exact undrew hbz); have HT3 : Hid (Two w3 w0.heap.size (.int .i64 vars) (.slice ao css.length cap)) := HT2.out.below (by first | exact hbz | exact undrew hbz); have c30 := HT3.out.c0; have c31 := HT3.out.c1; have c32 := HT3.out.lt; clear hbz)
                | (go_simp; go_at_call 7; refine (implCnfOk_any _ _ css _ (HV.out _ (by first | exact HB3.out | exact HB3.out.drew)) HL.out HTH.out).mono ?_; rintro e w4 ⟨he, hbz⟩; rw [HOO.out] at he; subst he; have HB4 : Hid (Below W1.heap.size W1 w4) := belNext HB3.out (by first | exact hbz | exact undrew hbz); have HT4 : Hid (Two w4 w0.heap.size (.int .i64 vars) (.slice ao css.length cap)) := HT3.out.below (by first | exact hbz | exact undrew hbz); have c40 := HT4.out.c0; have c41 := HT4.out.c1; have c42 := HT4.out.lt; clear hbz)
                | (go_simp; go_at_call 7; refine (implCnfOk_any _ _ css _ (HV.out _ (by first | exact HB4.out | exact HB4.out.drew)) HL.out HTH.out).mono ?_; rintro e w5 ⟨he, hbz⟩; rw [HOO.out] at he; subst he; have HB5 : Hid (Below W1.heap.size W1 w5) := belNext HB4.out (by first | exact hbz | exact undrew hbz); have HT5 : Hid (Two w5 w0.heap.size (.int .i64 vars) (.slice ao css.length cap)) := HT4.out.below (by first | exact hbz | exact undrew hbz); have c50 := HT5.out.c0; have c51 := HT5.out.c1; have c52 := HT5.out.lt; clear hbz)
                | (go_simp; go_at_call 8; refine (specCnfOk_any _ _ css _ (HV.out _ (by first | exact HB3.out | exact HB3.out.drew)) HL.out HTH.out).mono ?_; rintro e w4 ⟨he, hbz⟩; rw [HOO.out] at he; subst he; have HB4 : Hid (Below W1.heap.size W1 w4) := belNext HB3.out (by first | exact hbz | exact undrew hbz); have HT4 : Hid (Two w4 w0.heap.size (.int .i64 vars) (.slice ao css.length cap)) := HT3.out.below (by first | exact hbz | exact undrew hbz); have c40 := HT4.out.c0; have c41 := HT4.out.c1; have c42 := HT4.out.lt; clear hbz)
                | (go_simp; go_at_call 8; refine (specCnfOk_any _ _ css _ (HV.out _ (by first | exact HB4.out | exact HB4.out.drew)) HL.out HTH.out).mono ?_; rintro e w5 ⟨he, hbz⟩; rw [HOO.out] at he; subst he; have HB5 : Hid (Below W1.heap.size W1 w5) := belNext HB4.out (by first | exact hbz | exact undrew hbz); have HT5 : Hid (Two w5 w0.heap.size (.int .i64 vars) (.slice ao css.length cap)) := HT4.out.below (by first | exact hbz | exact undrew hbz); have c50 := HT5.out.c0; have c51 := HT5.out.c1; have c52 := HT5.out.lt; clear hbz)
                | (go_simp; go_at_call 8; refine (specCnfOk_any _ _ css _ (HV.out _ (by first | exact HB5.out | exact HB5.out.drew)) HL.out HTH.out).mono ?_; rintro e w6 ⟨he, hbz⟩; rw [HOO.out] at he; subst he; have HB6 : Hid (Below W1.heap.size W1 w6) := belNext HB5.out (by first | exact hbz | exact undrew hbz); have HT6 : Hid (Two w6 w0.heap.size (.int .i64 vars) (.slice ao css.length cap)) := HT5.out.below (by first | exact hbz | exact undrew hbz); have c60 := HT6.out.c0; have c61 := HT6.out.c1; have c62 := HT6.out.lt; clear hbz))
          all_goals
            go_wp2_with fail
            go_meet
            case rel => exact ⟨by first | rfl | rw [HLB.out], HB6⟩
        case rest =>
          rename World => w6
          obtain ⟨rfl, HB6⟩ := hcut
          have HT6 : Hid (Two w6 w0.heap.size (.int .i64 vars) (.slice ao css.length cap)) := HT1.out.below HB6.out
          clear c20 c21 c22
          have c60 := HT6.out.c0
          have c61 := HT6.out.c1
          have c62 := HT6.out.lt
          go_wp2_with fail
          go_region_held3 (fun w' => w'.cell? ⟨w0.heap.size, 0, none⟩ = some (.int .i64 vars) ∧ w'.cell? ⟨w0.heap.size, 1, none⟩ = some (.slice ao css.length cap) ∧ w0.heap.size < w'.heap.size)
              (first | exact ⟨by assumption, by assumption, by assumption⟩ | (go_keep; done) | (go_keep; omega))
              (first
                | (go_simp; go_at_call 6; refine (specCnfHolds_any _ _ css _ ms _ (HV.out _ (by first | exact HB6.out | exact HB6.out.drew)) HL.out HTH.out (HU.out _ (by first | exact HB6.out | exact HB6.out.drew)) HML.out).mono ?_; rintro e w7 ⟨he, hbz⟩; rw [HOK.out] at he; subst he; have HB7 : Hid (Below W1.heap.size W1 w7) := belNext HB6.out (by first | exact hbz | exact undrew hbz); have HT7 : Hid (Two w7 w0.heap.size (.int .i64 vars) (.slice ao css.length cap)) := HT6.out.below (by first | exact hbz | exact undrew hbz); have c70 := HT7.out.c0; have c71 := HT7.out.c1; have c72 := HT7.out.lt; clear hbz)
                | (go_simp; go_at_call 7; refine (implCnfOk_any _ _ css _ (HV.out _ (by first | exact HB7.out | exact HB7.out.drew)) HL.out HTH.out).mono ?_; rintro e w8 ⟨he, hbz⟩; rw [HOO.out] at he; subst he; have HB8 : Hid (Below W1.heap.size W1 w8) := belNext HB7.out (by first | exact hbz | exact undrew hbz); have HT8 : Hid (Two w8 w0.heap.size (.int .i64 vars) (.slice ao css.length cap)) := HT7.out.below (by first | exact hbz | exact undrew hbz); have c80 := HT8.out.c0; have c81 := HT8.out.c1; have c82 := HT8.out.lt; clear hbz)
                | (go_simp; go_at_call 7; refine (implCnfOk_any _ _ css _ (HV.out _ (by first | exact HB8.out | exact HB8.out.drew)) HL.out HTH.out).mono ?_; rintro e w9 ⟨he, hbz⟩; rw [HOO.out] at he; subst he; have HB9 : Hid (Below W1.heap.size W1 w9) := belNext HB8.out (by first | exact hbz | exact undrew hbz); have HT9 : Hid (Two w9 w0.heap.size (.int .i64 vars) (.slice ao css.length cap)) := HT8.out.below (by first | exact hbz | exact undrew hbz); have c90 := HT9.out.c0; have c91 := HT9.out.c1; have c92 := HT9.out.lt; clear hbz)
                | (go_simp; go_at_call 8; refine (specCnfOk_any _ _ css _ (HV.out _ (by first | exact HB7.out | exact HB7.out.drew)) HL.out HTH.out).mono ?_; rintro e w8 ⟨he, hbz⟩; rw [HOO.out] at he; subst he; have HB8 : Hid (Below W1.heap.size W1 w8) := belNext HB7.out (by first | exact hbz | exact undrew hbz); have HT8 : Hid (Two w8 w0.heap.size (.int .i64 vars) (.slice ao css.length cap)) := HT7.out.below (by first | exact hbz | exact undrew hbz); have c80 := HT8.out.c0; have c81 := HT8.out.c1; have c82 := HT8.out.lt; clear hbz)
                | (go_simp; go_at_call 8; refine (specCnfOk_any _ _ css _ (HV.out _ (by first | exact HB8.out | exact HB8.out.drew)) HL.out HTH.out).mono ?_; rintro e w9 ⟨he, hbz⟩; rw [HOO.out] at he; subst he; have HB9 : Hid (Below W1.heap.size W1 w9) := belNext HB8.out (by first | exact hbz | exact undrew hbz); have HT9 : Hid (Two w9 w0.heap.size (.int .i64 vars) (.slice ao css.length cap)) := HT8.out.below (by first | exact hbz | exact undrew hbz); have c90 := HT9.out.c0; have c91 := HT9.out.c1; have c92 := HT9.out.lt; clear hbz))
          all_goals
            go_wp2
            go_ret
            exact ⟨rfl, HBW.out.trans (HB9.out.mono HBW.out.size)⟩
  · go_enter Try.func3, Try.ntmps3
    go_wp2
    go_ret
    exact ⟨rfl, Below.refl _ _⟩

end Go.Proofs.Ytepamfkbeccmaaa
