/-
  The model's l2Solve: it goes on from what is told, variable by variable.
-/
import Derived.Test.YtepamfkbeccmaaaCopy
namespace Go.Proofs.Ytepamfkbeccmaaa
open Go.RowKit Go.Deep
set_option linter.unusedVariables false

def solveF (vars : Nat) (css : List (List Int)) : Nat → List Int → List Int × Bool
  | 0, told => (told, false)
  | f + 1, told =>
    if (unitsF css (vars + 1) told).2 = false then (told, false)
    else if nextL (unitsF css (vars + 1) told).1 vars 1 = 0 then ((unitsF css (vars + 1) told).1, true)
    else if (solveF vars css f ((unitsF css (vars + 1) told).1 ++ [-(nextL (unitsF css (vars + 1) told).1 vars 1)])).2 = true then ((solveF vars css f ((unitsF css (vars + 1) told).1 ++ [-(nextL (unitsF css (vars + 1) told).1 vars 1)])).1, true)
    else solveF vars css f ((unitsF css (vars + 1) told).1 ++ [nextL (unitsF css (vars + 1) told).1 vars 1])

theorem units_longer (css : List (List Int)) : ∀ (f : Nat) (told : List Int), told.length ≤ (unitsF css f told).1.length
  | 0, told => by simp [unitsF]
  | f + 1, told => by
    simp only [unitsF]
    split
    · exact Nat.le_refl _
    · split
      · exact Nat.le_refl _
      · have := units_longer css f (told ++ [(scanL told css).1])
        simp at this
        omega

set_option maxHeartbeats 16000000 in
theorem l2Solve_any (css : List (List Int)) (vars : Nat) (h60 : vars ≤ 60) (hc : ∀ xs ∈ css, ∀ x ∈ xs, litB vars x = true) (hn : css.length ≤ 150) (hm : ∀ i, i < css.length → (css.getD i []).length ≤ maxLen) :
    ∀ (f : Nat) (told : List Int) (v1 v : Value) (w : World), Good vars told → vars < told.length + f → IsRows w v1 css → IsInts w v told →
    Calls Try.prog 22 #[.agg #[.int .i64 vars, v1], v] w fun e w' => ∃ v', e = .returned (.tuple #[v', .bool (solveF vars css f told).2]) ∧ IsInts w' v' (solveF vars css f told).1 ∧ Good vars (solveF vars css f told).1 ∧ Below w.heap.size w w' := by
  intro f
  induction f with
  | zero =>
    intro told v1 v w hg hf
    have := hg.length_le (by omega)
    omega
  | succ f ih =>
    intro told v1 v w hg hf hv hints
    have IH : Hid (∀ (told : List Int) (v1 v : Value) (w : World), Good vars told → vars < told.length + f → IsRows w v1 css → IsInts w v told →
      Calls Try.prog 22 #[.agg #[.int .i64 vars, v1], v] w fun e w' => ∃ v', e = .returned (.tuple #[v', .bool (solveF vars css f told).2]) ∧ IsInts w' v' (solveF vars css f told).1 ∧ Good vars (solveF vars css f told).1 ∧ Below w.heap.size w w') := ih
    clear ih
    have HG : Hid (Good vars told) := hg
    have hlen := hg.length_le (by omega)
    have HV : Hid (∀ w', Below w.heap.size w w' → IsRows w' v1 css) := fun w' h => hv.below h
    have HI : Hid (∀ w', Below w.heap.size w w' → IsInts w' v told) := fun w' h => hints.below h
    obtain ⟨ao1, cap1, rfl, _⟩ := hv
    obtain ⟨ao, cap, rfl, hints⟩ := hints
    clear hg
    obtain ⟨W0, hW0⟩ : ∃ W0, W0 = w.alloc (.cells #[.int .i64 vars, .slice ao1 css.length cap1] 25) := ⟨_, rfl⟩
    have HB0 : Hid (Below w.heap.size w W0) := by rw [hW0]; exact belOne _ _
    have HT0 : Hid (Two W0 w.heap.size (.int .i64 vars) (.slice ao1 css.length cap1)) := by rw [hW0]; exact Two.new _ _ _ _
    have hle0 : w.heap.size < W0.heap.size := HT0.out.lt
    obtain ⟨i0, hi, hz0, hz1, hz2⟩ := info_parts info_int
    obtain ⟨ul, ub, hu⟩ : ∃ ul ub, unitsF css (vars + 1) told = (ul, ub) := ⟨_, _, rfl⟩
    have HUF : Hid (unitsF css (vars + 1) told = (ul, ub)) := hu
    have HGU : Hid (Good vars ul) := by have := HG.out.units hc (vars + 1); rw [hu] at this; exact this
    have hul : ul.length ≤ vars := by have := HGU.out.length_le (by omega); omega
    have htu : told.length ≤ ul.length := by have := units_longer css (vars + 1) told; rw [hu] at this; exact this
    obtain ⟨rl, rb, hr⟩ : ∃ rl rb, solveF vars css (f + 1) told = (rl, rb) := ⟨_, _, rfl⟩
    rw [hr]
    have HR : Hid (solveF vars css (f + 1) told = (rl, rb)) := hr
    have hsz0 : W0.heap.size = w.heap.size + 1 := by rw [hW0]; simp
    have HSZ0 : Hid (W0.heap.size = w.heap.size + 1) := hsz0
    clear hu hr hints hsz0
    have HTL : Hid (ul.length ≤ maxLen) := by show ul.length ≤ maxLen; unfold maxLen; omega
    have hbb : Hid (∀ o, Below w.heap.size w ((W0.alloc o).drew)) := fun o => ((HB0.out.alloc (by omega) o)).drew
    have hne0 : Hid (some w.heap.size ≠ some W0.heap.size) := fun e => by have := Option.some.inj e; omega
    go_enter Try.func22, Try.ntmps22
    go_wp2
    rw [← hW0]
    have hx0 := HT0.out.c0
    have hx1 := HT0.out.c1
    clear hW0
    go_region_held_law (fun w' => w'.cell? ⟨w.heap.size, 0, none⟩ = some (.int .i64 vars) ∧ w'.cell? ⟨w.heap.size, 1, none⟩ = some (.slice ao1 css.length cap1) ∧ w.heap.size < w'.heap.size)
      (first | exact ⟨by assumption, by assumption, by assumption⟩ | (go_keep; done) | (go_keep; omega))
      (first
        | (refine step_copy rfl (.tmp 13) (.tmp 14) rfl W0.heap.size W0.heap.size _ told rfl rfl (blk1 _ _) (Nat.le_refl _) (HI.out _ (hbb.out _)) (by omega) ?_; intro ao2 cap2 w1 hown1 hgrow1; have HO1 : Hid (Owns w1 W0.heap.size (.slice ao2 told.length cap2) told) := hown1; have HB1 : Hid (Below w.heap.size w w1) := Below.grown (hbb.out _) hgrow1 (by simp; omega) (fun k e => by have := Option.some.inj e; omega); have ht1 := ((HT0.out.below (belOne _ _)).below ((Below.refl _ _).drew)).grown hgrow1 hne0.out; have hy0 := ht1.c0; have hy1 := ht1.c1; have hy2 := ht1.lt; have hs1 : W0.heap.size ≤ w1.heap.size := (by have := hgrow1.size; simp at this; omega); have HT1 : Hid (Two w1 w.heap.size (.int .i64 vars) (.slice ao1 css.length cap1)) := ht1; clear hown1 hgrow1 ht1)
        | (go_simp; go_at_call 29; refine (l1Units_any css vars (by omega) (by omega) hc hn hm (vars + 1) told _ _ _ _ W0.heap.size HG.out (by omega) (fun w' h => HV.out w' (HB1.out.trans (h.mono (by omega)))) hs1 HO1.out).mono ?_; rintro e w2 ⟨v2, he, hown2, hbel2⟩; rw [HUF.out] at he hown2; obtain ⟨ao3, cap3, hv3⟩ := hown2.form; rw [hv3] at he hown2; subst he; have HO2 : Hid (Owns w2 W0.heap.size (.slice ao3 ul.length cap3) ul) := hown2; have HB2 : Hid (Below w.heap.size w w2) := HB1.out.trans (hbel2.mono (by omega)); have ht20 := (hbel2.cell (p := ⟨w.heap.size, 0, none⟩) (by show w.heap.size < W0.heap.size; omega)).trans HT1.out.c0; have ht21 := (hbel2.cell (p := ⟨w.heap.size, 1, none⟩) (by show w.heap.size < W0.heap.size; omega)).trans HT1.out.c1; have ht22 : w.heap.size < w2.heap.size := Nat.lt_of_lt_of_le HT1.out.lt hbel2.size; clear hown2 hbel2))
    cases ub with
    | false =>
      have HE : Hid (told = rl ∧ false = rb) := by
        have h2 := HR.out
        simp only [solveF] at h2
        rw [HUF.out] at h2
        simp only [if_pos] at h2
        exact Prod.mk.inj h2
      go_wp2
      go_ret2
      exact ⟨_, ret_tuple HE.out.2, by rw [← HE.out.1]; exact HI.out _ HB2.out, by rw [← HE.out.1]; exact HG.out, HB2.out⟩
    | true =>
      have HIN : Hid (IsInts w2 (.slice ao3 ul.length cap3) ul) := HO2.out.isInts
      go_wp2_with fail
      refine (l2Next_any _ ul vars _ HIN.out HTL.out h60).mono ?_
      rintro e w2 ⟨rfl, rfl⟩
      by_cases hz : nextL ul vars 1 = 0
      · have HE : Hid (ul = rl ∧ true = rb) := by
          have h2 := HR.out
          simp only [solveF] at h2
          rw [HUF.out] at h2
          rw [if_neg (by simp), if_pos hz] at h2
          exact Prod.mk.inj h2
        rw [hz]
        clear hz
        go_wp2
        go_ret2
        exact ⟨_, ret_tuple HE.out.2, by rw [← HE.out.1]; exact HIN.out, by rw [← HE.out.1]; exact HGU.out, HB2.out⟩
      · obtain ⟨j, hj, hj1, hj2, hj3, hj4⟩ := nextL_is ul vars 1 hz
        have HGN : Hid (Good vars (ul ++ [-(j : Int)])) := HGU.out.snoc (litB_iff.2 ⟨by omega, by omega, by omega⟩) hj4 (by rw [Int.neg_neg]; exact hj3)
        have HGP : Hid (Good vars (ul ++ [(j : Int)])) := HGU.out.snoc (litB_iff.2 ⟨by omega, by omega, by omega⟩) hj3 hj4
        obtain ⟨al, ab, ha⟩ : ∃ al ab, solveF vars css f (ul ++ [-(j : Int)]) = (al, ab) := ⟨_, _, rfl⟩
        have HSA : Hid (solveF vars css f (ul ++ [-(j : Int)]) = (al, ab)) := ha
        have HE : Hid ((if ab = true then (al, true) else solveF vars css f (ul ++ [(j : Int)])) = (rl, rb)) := by
          have h2 := HR.out
          simp only [solveF] at h2
          rw [HUF.out] at h2
          rw [if_neg (by simp), if_neg hz, hj, ha] at h2
          exact h2
        rw [hj]
        have hjz : ((j : Int) == 0) = false := by simp; omega
        have hwr : IntKind.i64.wrap (-(j : Int)) = -(j : Int) := by rw [IntKind.wrap_i64]; omega
        clear hz hj hj3 hj4 ha
        have HI2 : Hid (∀ w', Below w2.heap.size w2 w' → IsInts w' (.slice ao3 ul.length cap3) ul) := fun w' h => HIN.out.below h
        have HSHGN : Hid (solveF vars css f (ul ++ [-(j : Int)]) = (al, ab)) := HSA
        go_wp2
        go_region_held_law (fun w' => w'.cell? ⟨w.heap.size, 0, none⟩ = some (.int .i64 vars) ∧ w'.cell? ⟨w.heap.size, 1, none⟩ = some (.slice ao1 css.length cap1) ∧ w.heap.size < w'.heap.size)
          (first | exact ⟨by assumption, by assumption, by assumption⟩ | (go_keep; done) | (go_keep; omega))
          (first
            | (refine step_copy rfl (.tmp 31) (.tmp 32) rfl w2.heap.size w2.heap.size _ ul rfl rfl (blk1 _ _) (Nat.le_refl _) (HI2.out _ (belD1 _ _)) (by omega) ?_; intro ao4 cap4 w4 hown4 hgrow4; have HO4 : Hid (Owns w4 w2.heap.size (.slice ao4 ul.length cap4) ul) := hown4; have HB4 : Hid (Below w2.heap.size w2 w4) := Below.grown (belD1 _ _) hgrow4 (by first | omega | (simp; done) | (simp; omega)) (fun k e => by have := Option.some.inj e; omega); have hy0 := (HB4.out.cell (p := ⟨w.heap.size, 0, none⟩) ht22).trans ht20; have hy1 := (HB4.out.cell (p := ⟨w.heap.size, 1, none⟩) ht22).trans ht21; have hy2 : w.heap.size < w4.heap.size := Nat.lt_of_lt_of_le ht22 HB4.out.size; have hy3 : w2.heap.size ≤ w4.heap.size := HB4.out.size; clear hown4 hgrow4)
            | (refine step_copy rfl (.tmp 31) (.tmp 32) rfl w2.heap.size w2.heap.size _ ul rfl rfl (blk3 _ _ _) (Nat.le_refl _) (HI2.out _ (belD2 _ _ _)) (by omega) ?_; intro ao4 cap4 w4 hown4 hgrow4; have HO4 : Hid (Owns w4 w2.heap.size (.slice ao4 ul.length cap4) ul) := hown4; have HB4 : Hid (Below w2.heap.size w2 w4) := Below.grown (belD2 _ _ _) hgrow4 (by first | omega | (simp; done) | (simp; omega)) (fun k e => by have := Option.some.inj e; omega); have hone : w4.cell? ⟨w2.heap.size + 1, 0, none⟩ = some (.int .i64 (-(j : Int))) := hgrow4.cell (one_second _ _ _ _) (fun e => by have h9 := Option.some.inj e; dsimp only at h9; omega); have hy0 := (HB4.out.cell (p := ⟨w.heap.size, 0, none⟩) ht22).trans ht20; have hy1 := (HB4.out.cell (p := ⟨w.heap.size, 1, none⟩) ht22).trans ht21; have hy2 : w.heap.size < w4.heap.size := Nat.lt_of_lt_of_le ht22 HB4.out.size; have hy3 : w2.heap.size ≤ w4.heap.size := HB4.out.size; clear hown4 hgrow4)
            | (refine step_copy rfl (.tmp 31) (.tmp 32) rfl w2.heap.size (w2.heap.size + 1) _ ul rfl rfl (blk2 _ _ _) (Nat.le_succ _) (HI2.out _ (belD2 _ _ _)) (by omega) ?_; intro ao4 cap4 w4 hown4 hgrow4; have HO4 : Hid (Owns w4 w2.heap.size (.slice ao4 ul.length cap4) ul) := hown4; have HB4 : Hid (Below w2.heap.size w2 w4) := Below.grown (belD2 _ _ _) hgrow4 (by first | omega | (simp; done) | (simp; omega)) (fun k e => by have := Option.some.inj e; omega); have hone : w4.cell? ⟨w2.heap.size, 0, none⟩ = some (.int .i64 (-(j : Int))) := hgrow4.cell (one_first _ _ _ _) (fun e => by have h9 := Option.some.inj e; dsimp only at h9; omega); have hy0 := (HB4.out.cell (p := ⟨w.heap.size, 0, none⟩) ht22).trans ht20; have hy1 := (HB4.out.cell (p := ⟨w.heap.size, 1, none⟩) ht22).trans ht21; have hy2 : w.heap.size < w4.heap.size := Nat.lt_of_lt_of_le ht22 HB4.out.size; have hy3 : w2.heap.size ≤ w4.heap.size := HB4.out.size; clear hown4 hgrow4)
            | (refine step_append_lies _ rfl (.tmp 33) (.tmp 36) 31 rfl w2.heap.size 3 i0 (.int .i64 0) 1 8 Try.underlying31 hi hz0 hz1 hz2 rfl (by decide) _ ul.length (ul.map (Value.int .i64)) rfl (World.ownsRow.alloc HO4.out _) ⟨w4.heap.size, 0, none⟩ 1 1 [.int .i64 (-(j : Int))] rfl rfl (news_plain _ _ _) (ints_oneCell .i64 [-(j : Int)]) (by decide) (by unfold maxLen; omega) (by omega) (by first | omega | (simp; done) | (simp; omega)) _ rfl ?_; intro g gcap w5 hown5 hgrow5 hat5 hlt5; have HO5 : Hid (Owns w5 w2.heap.size (.slice (some ⟨g, 0, none⟩) (ul.length + 1) gcap) (ul ++ [-(j : Int)])) := Owns.snoc hown5; have HB5 : Hid (Below w2.heap.size w2 w5) := Below.grown (HB4.out.alloc (by omega) _) hgrow5 (by first | omega | (simp; done) | (simp; omega)) (fun q e => (HO4.out.blk_lt q e).1); have hz0' := (HB5.out.cell (p := ⟨w.heap.size, 0, none⟩) ht22).trans ht20; have hz1' := (HB5.out.cell (p := ⟨w.heap.size, 1, none⟩) ht22).trans ht21; have hz2' : w.heap.size < w5.heap.size := Nat.lt_of_lt_of_le ht22 HB5.out.size; clear hown5 hgrow5 hat5 hlt5)
            | (refine step_append_lies _ rfl (.tmp 33) (.tmp 36) 31 rfl w2.heap.size 3 i0 (.int .i64 0) 1 8 Try.underlying31 hi hz0 hz1 hz2 rfl (by decide) _ ul.length (ul.map (Value.int .i64)) rfl HO4.out ⟨w2.heap.size, 0, none⟩ 1 1 [.int .i64 (-(j : Int))] rfl rfl (news_of hone) (ints_oneCell .i64 [-(j : Int)]) (by decide) (by unfold maxLen; omega) (by omega) (by first | omega | (simp; done) | (simp; omega)) _ rfl ?_; intro g gcap w5 hown5 hgrow5 hat5 hlt5; have HO5 : Hid (Owns w5 w2.heap.size (.slice (some ⟨g, 0, none⟩) (ul.length + 1) gcap) (ul ++ [-(j : Int)])) := Owns.snoc hown5; have HB5 : Hid (Below w2.heap.size w2 w5) := Below.grown HB4.out hgrow5 (by first | omega | (simp; done) | (simp; omega)) (fun q e => (HO4.out.blk_lt q e).1); have hz0' := (HB5.out.cell (p := ⟨w.heap.size, 0, none⟩) ht22).trans ht20; have hz1' := (HB5.out.cell (p := ⟨w.heap.size, 1, none⟩) ht22).trans ht21; have hz2' : w.heap.size < w5.heap.size := Nat.lt_of_lt_of_le ht22 HB5.out.size; clear hown5 hgrow5 hat5 hlt5)
            | (refine step_append_lies _ rfl (.tmp 33) (.tmp 36) 31 rfl w2.heap.size 3 i0 (.int .i64 0) 1 8 Try.underlying31 hi hz0 hz1 hz2 rfl (by decide) _ ul.length (ul.map (Value.int .i64)) rfl HO4.out ⟨w2.heap.size + 1, 0, none⟩ 1 1 [.int .i64 (-(j : Int))] rfl rfl (news_of hone) (ints_oneCell .i64 [-(j : Int)]) (by decide) (by unfold maxLen; omega) (by omega) (by first | omega | (simp; done) | (simp; omega)) _ rfl ?_; intro g gcap w5 hown5 hgrow5 hat5 hlt5; have HO5 : Hid (Owns w5 w2.heap.size (.slice (some ⟨g, 0, none⟩) (ul.length + 1) gcap) (ul ++ [-(j : Int)])) := Owns.snoc hown5; have HB5 : Hid (Below w2.heap.size w2 w5) := Below.grown HB4.out hgrow5 (by first | omega | (simp; done) | (simp; omega)) (fun q e => (HO4.out.blk_lt q e).1); have hz0' := (HB5.out.cell (p := ⟨w.heap.size, 0, none⟩) ht22).trans ht20; have hz1' := (HB5.out.cell (p := ⟨w.heap.size, 1, none⟩) ht22).trans ht21; have hz2' : w.heap.size < w5.heap.size := Nat.lt_of_lt_of_le ht22 HB5.out.size; clear hown5 hgrow5 hat5 hlt5)
            | (go_simp; go_at_call 22; refine (IH.out (ul ++ [-(j : Int)]) _ _ _ HGN.out (by rw [List.length_append]; simp; omega) (HV.out _ (belNext HB2.out HB5.out)) HO5.out.isInts).mono ?_; rintro e w6 ⟨v6, he, hi6, hg6, hb6⟩; rw [HSHGN.out] at he hi6 hg6; have hi6' := hi6; obtain ⟨ao6, cap6, hv6, _⟩ := hi6; rw [hv6] at he hi6'; subst he; have HI6 : Hid (IsInts w6 _ _) := hi6'; have HG6 : Hid (Good vars _) := hg6; have HB6 : Hid (Below w2.heap.size w2 w6) := belNext HB5.out hb6; have hw0' := (HB6.out.cell (p := ⟨w.heap.size, 0, none⟩) ht22).trans ht20; have hw1' := (HB6.out.cell (p := ⟨w.heap.size, 1, none⟩) ht22).trans ht21; have hw2' : w.heap.size < w6.heap.size := Nat.lt_of_lt_of_le ht22 HB6.out.size; clear hi6' hg6 hb6))
        all_goals
          cases ab with
          | true =>
            have HE2 : Hid (al = rl ∧ true = rb) := by
              have h2 := HE.out
              rw [if_pos rfl] at h2
              exact Prod.mk.inj h2
            go_wp2
            go_ret2
            exact ⟨_, ret_tuple HE2.out.2, by rw [← HE2.out.1]; exact HI6.out, by rw [← HE2.out.1]; exact HG6.out, belNext HB2.out HB6.out⟩
          | false =>
            have HSHGP : Hid (solveF vars css f (ul ++ [(j : Int)]) = (rl, rb)) := by
              have h2 := HE.out
              rw [if_neg (by simp)] at h2
              exact h2
            have HC2 : Hid (Below w.heap.size w w6) := belNext HB2.out HB6.out
            have HJ2 : Hid (∀ w', Below w6.heap.size w6 w' → IsInts w' (.slice ao3 ul.length cap3) ul) := fun w' h => (HIN.out.below HB6.out).below h
            have hs20 := (HB6.out.cell (p := ⟨w.heap.size, 0, none⟩) ht22).trans ht20
            have hs21 := (HB6.out.cell (p := ⟨w.heap.size, 1, none⟩) ht22).trans ht21
            have hs22 : w.heap.size < w6.heap.size := Nat.lt_of_lt_of_le ht22 HB6.out.size
            clear hw0' hw1' hw2' ht20 ht21 ht22 hy0 hy1 hy2 hy3 hz0' hz1' hz2' hx0 hx1
            go_wp2
            go_region_held_law (fun w' => w'.cell? ⟨w.heap.size, 0, none⟩ = some (.int .i64 vars) ∧ w'.cell? ⟨w.heap.size, 1, none⟩ = some (.slice ao1 css.length cap1) ∧ w.heap.size < w'.heap.size)
              (first | exact ⟨by assumption, by assumption, by assumption⟩ | (go_keep; done) | (go_keep; omega))
              (first
                | (refine step_copy rfl (.tmp 44) (.tmp 45) rfl w6.heap.size w6.heap.size _ ul rfl rfl (blk1 _ _) (Nat.le_refl _) (HJ2.out _ (belD1 _ _)) (by omega) ?_; intro ao4 cap4 w4 hown4 hgrow4; have HO4 : Hid (Owns w4 w6.heap.size (.slice ao4 ul.length cap4) ul) := hown4; have HB4 : Hid (Below w6.heap.size w6 w4) := Below.grown (belD1 _ _) hgrow4 (by first | omega | (simp; done) | (simp; omega)) (fun k e => by have := Option.some.inj e; omega); have hy0 := (HB4.out.cell (p := ⟨w.heap.size, 0, none⟩) hs22).trans hs20; have hy1 := (HB4.out.cell (p := ⟨w.heap.size, 1, none⟩) hs22).trans hs21; have hy2 : w.heap.size < w4.heap.size := Nat.lt_of_lt_of_le hs22 HB4.out.size; have hy3 : w6.heap.size ≤ w4.heap.size := HB4.out.size; clear hown4 hgrow4)
                | (refine step_copy rfl (.tmp 44) (.tmp 45) rfl w6.heap.size w6.heap.size _ ul rfl rfl (blk3 _ _ _) (Nat.le_refl _) (HJ2.out _ (belD2 _ _ _)) (by omega) ?_; intro ao4 cap4 w4 hown4 hgrow4; have HO4 : Hid (Owns w4 w6.heap.size (.slice ao4 ul.length cap4) ul) := hown4; have HB4 : Hid (Below w6.heap.size w6 w4) := Below.grown (belD2 _ _ _) hgrow4 (by first | omega | (simp; done) | (simp; omega)) (fun k e => by have := Option.some.inj e; omega); have hone : w4.cell? ⟨w6.heap.size + 1, 0, none⟩ = some (.int .i64 ((j : Int))) := hgrow4.cell (one_second _ _ _ _) (fun e => by have h9 := Option.some.inj e; dsimp only at h9; omega); have hy0 := (HB4.out.cell (p := ⟨w.heap.size, 0, none⟩) hs22).trans hs20; have hy1 := (HB4.out.cell (p := ⟨w.heap.size, 1, none⟩) hs22).trans hs21; have hy2 : w.heap.size < w4.heap.size := Nat.lt_of_lt_of_le hs22 HB4.out.size; have hy3 : w6.heap.size ≤ w4.heap.size := HB4.out.size; clear hown4 hgrow4)
                | (refine step_copy rfl (.tmp 44) (.tmp 45) rfl w6.heap.size (w6.heap.size + 1) _ ul rfl rfl (blk2 _ _ _) (Nat.le_succ _) (HJ2.out _ (belD2 _ _ _)) (by omega) ?_; intro ao4 cap4 w4 hown4 hgrow4; have HO4 : Hid (Owns w4 w6.heap.size (.slice ao4 ul.length cap4) ul) := hown4; have HB4 : Hid (Below w6.heap.size w6 w4) := Below.grown (belD2 _ _ _) hgrow4 (by first | omega | (simp; done) | (simp; omega)) (fun k e => by have := Option.some.inj e; omega); have hone : w4.cell? ⟨w6.heap.size, 0, none⟩ = some (.int .i64 ((j : Int))) := hgrow4.cell (one_first _ _ _ _) (fun e => by have h9 := Option.some.inj e; dsimp only at h9; omega); have hy0 := (HB4.out.cell (p := ⟨w.heap.size, 0, none⟩) hs22).trans hs20; have hy1 := (HB4.out.cell (p := ⟨w.heap.size, 1, none⟩) hs22).trans hs21; have hy2 : w.heap.size < w4.heap.size := Nat.lt_of_lt_of_le hs22 HB4.out.size; have hy3 : w6.heap.size ≤ w4.heap.size := HB4.out.size; clear hown4 hgrow4)
                | (refine step_append_lies _ rfl (.tmp 46) (.tmp 48) 31 rfl w6.heap.size 3 i0 (.int .i64 0) 1 8 Try.underlying31 hi hz0 hz1 hz2 rfl (by decide) _ ul.length (ul.map (Value.int .i64)) rfl (World.ownsRow.alloc HO4.out _) ⟨w4.heap.size, 0, none⟩ 1 1 [.int .i64 ((j : Int))] rfl rfl (news_plain _ _ _) (ints_oneCell .i64 [(j : Int)]) (by decide) (by unfold maxLen; omega) (by omega) (by first | omega | (simp; done) | (simp; omega)) _ rfl ?_; intro g gcap w5 hown5 hgrow5 hat5 hlt5; have HO5 : Hid (Owns w5 w6.heap.size (.slice (some ⟨g, 0, none⟩) (ul.length + 1) gcap) (ul ++ [(j : Int)])) := Owns.snoc hown5; have HB5 : Hid (Below w6.heap.size w6 w5) := Below.grown (HB4.out.alloc (by omega) _) hgrow5 (by first | omega | (simp; done) | (simp; omega)) (fun q e => (HO4.out.blk_lt q e).1); have hz0' := (HB5.out.cell (p := ⟨w.heap.size, 0, none⟩) hs22).trans hs20; have hz1' := (HB5.out.cell (p := ⟨w.heap.size, 1, none⟩) hs22).trans hs21; have hz2' : w.heap.size < w5.heap.size := Nat.lt_of_lt_of_le hs22 HB5.out.size; clear hown5 hgrow5 hat5 hlt5)
                | (refine step_append_lies _ rfl (.tmp 46) (.tmp 48) 31 rfl w6.heap.size 3 i0 (.int .i64 0) 1 8 Try.underlying31 hi hz0 hz1 hz2 rfl (by decide) _ ul.length (ul.map (Value.int .i64)) rfl HO4.out ⟨w6.heap.size, 0, none⟩ 1 1 [.int .i64 ((j : Int))] rfl rfl (news_of hone) (ints_oneCell .i64 [(j : Int)]) (by decide) (by unfold maxLen; omega) (by omega) (by first | omega | (simp; done) | (simp; omega)) _ rfl ?_; intro g gcap w5 hown5 hgrow5 hat5 hlt5; have HO5 : Hid (Owns w5 w6.heap.size (.slice (some ⟨g, 0, none⟩) (ul.length + 1) gcap) (ul ++ [(j : Int)])) := Owns.snoc hown5; have HB5 : Hid (Below w6.heap.size w6 w5) := Below.grown HB4.out hgrow5 (by first | omega | (simp; done) | (simp; omega)) (fun q e => (HO4.out.blk_lt q e).1); have hz0' := (HB5.out.cell (p := ⟨w.heap.size, 0, none⟩) hs22).trans hs20; have hz1' := (HB5.out.cell (p := ⟨w.heap.size, 1, none⟩) hs22).trans hs21; have hz2' : w.heap.size < w5.heap.size := Nat.lt_of_lt_of_le hs22 HB5.out.size; clear hown5 hgrow5 hat5 hlt5)
                | (refine step_append_lies _ rfl (.tmp 46) (.tmp 48) 31 rfl w6.heap.size 3 i0 (.int .i64 0) 1 8 Try.underlying31 hi hz0 hz1 hz2 rfl (by decide) _ ul.length (ul.map (Value.int .i64)) rfl HO4.out ⟨w6.heap.size + 1, 0, none⟩ 1 1 [.int .i64 ((j : Int))] rfl rfl (news_of hone) (ints_oneCell .i64 [(j : Int)]) (by decide) (by unfold maxLen; omega) (by omega) (by first | omega | (simp; done) | (simp; omega)) _ rfl ?_; intro g gcap w5 hown5 hgrow5 hat5 hlt5; have HO5 : Hid (Owns w5 w6.heap.size (.slice (some ⟨g, 0, none⟩) (ul.length + 1) gcap) (ul ++ [(j : Int)])) := Owns.snoc hown5; have HB5 : Hid (Below w6.heap.size w6 w5) := Below.grown HB4.out hgrow5 (by first | omega | (simp; done) | (simp; omega)) (fun q e => (HO4.out.blk_lt q e).1); have hz0' := (HB5.out.cell (p := ⟨w.heap.size, 0, none⟩) hs22).trans hs20; have hz1' := (HB5.out.cell (p := ⟨w.heap.size, 1, none⟩) hs22).trans hs21; have hz2' : w.heap.size < w5.heap.size := Nat.lt_of_lt_of_le hs22 HB5.out.size; clear hown5 hgrow5 hat5 hlt5)
                | (go_simp; go_at_call 22; refine (IH.out (ul ++ [(j : Int)]) _ _ _ HGP.out (by rw [List.length_append]; simp; omega) (HV.out _ (belNext HC2.out HB5.out)) HO5.out.isInts).mono ?_; rintro e w9 ⟨v6, he, hi6, hg6, hb6⟩; rw [HSHGP.out] at he hi6 hg6; have hi6' := hi6; obtain ⟨ao6, cap6, hv6, _⟩ := hi6; rw [hv6] at he hi6'; subst he; have HI9 : Hid (IsInts w9 _ _) := hi6'; have HG9 : Hid (Good vars _) := hg6; have HB9 : Hid (Below w6.heap.size w6 w9) := belNext HB5.out hb6; have hv0' := (HB9.out.cell (p := ⟨w.heap.size, 0, none⟩) hs22).trans hs20; have hv1' := (HB9.out.cell (p := ⟨w.heap.size, 1, none⟩) hs22).trans hs21; have hv2' : w.heap.size < w9.heap.size := Nat.lt_of_lt_of_le hs22 HB9.out.size; clear hi6' hg6 hb6))

            all_goals
              go_wp2
              go_ret2
              exact ⟨_, ret_tuple rfl, HI9.out, HG9.out, belNext HC2.out HB9.out⟩

end Go.Proofs.Ytepamfkbeccmaaa
