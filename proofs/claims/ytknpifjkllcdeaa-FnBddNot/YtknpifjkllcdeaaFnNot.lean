/-
  The law FnBddNot: of every drawn diagram, the opposite of its opposite is it itself, with as many nodes; both together are never, either always, and the ways of both are all. No condition: every argument that can be read.
-/
import Derived.Test.YtknpifjkllcdeaaBdDv
import Derived.Test.YtknpifjkllcdeaaBdPd
import Derived.Test.YtknpifjkllcdeaaHoldV
import Derived.Test.YtknpifjkllcdeaaBdRg
import Derived.Test.YtknpifjkllcdeaaBdCc
import Derived.Test.YtknpifjkllcdeaaOpenB
namespace Go.Proofs.Ytknpifjkllcdeaa
open Go.ChangeShapes Go.WideShapes Go.ChangeAt Go.RowKit Go.Deep Go.Joins
set_option linter.unusedVariables false

attribute [local go_sem] Oper.semAt_some

theorem notA_fits {vi : Int} {ns : List Nd} {root : Int} : (∀ p ∈ (ansOf (bddB vi ns root) vi (notT vi ns root)).2.1, FitN p) ∧ (ansOf (bddB vi ns root) vi (notT vi ns root)).2.1.length ≤ 64 := by
  cases h : bddB vi ns root with
  | false => simp [ansOf]
  | true =>
    obtain ⟨V, rfl, h6, -⟩ := bdd_split h
    have hp : 2 ^ V ≤ 64 := by show _ ≤ 2 ^ 6; exact Nat.pow_le_pow_right (by decide) h6
    have hl := drawB_len V 0 (notT (V : Int) ns root) []
    simp only [List.length_nil] at hl
    unfold ansOf
    rw [if_pos rfl, Int.toNat_natCast]
    exact ⟨drawB_fits V 0 _ [] (by omega) (by simp only [List.length_nil]; omega) (by simp), by simp only; omega⟩
theorem fit64 {q : Nd} (h : FitN q) : I64N q := by obtain ⟨⟨a, b⟩, ⟨c, d⟩, e, g⟩ := h; unfold I64N I64; omega

set_option maxRecDepth 100000 in
set_option maxHeartbeats 16000000 in
theorem fnBddNot_walk (v : Value) (bs : List Int) (w : World) (hv : IsBytes w v bs) (hal : ∀ ao n cap b off, v = .slice ao n cap → ao = some ⟨b, off, none⟩ → b < w.heap.size) (hml : bs.length ≤ maxLen) :
    Calls Try.prog 8 #[v] w fun e w' => e = .returned (.bool true) ∧ Below w.heap.size w w' := by
  unfold maxLen at hml
  have HDR := hideN (fun (h : bs.length ≤ 1048576) => drawBddNot_any v bs w hv h hal)
  obtain ⟨aoc, capc, rfl, _⟩ := hv
  clear hal
  by_cases hbig : bs.length ≤ 1048576
  case neg =>
    have d1 : decide ((1048576 : Int) < (bs.length : Int)) = true := by simp; omega
    go_enter Try.func8, Try.ntmps8
    go_wp2_with fail
    go_ret
    exact ⟨rfl, Below.refl _ _⟩
  have d1 : decide ((1048576 : Int) < (bs.length : Int)) = false := by simp; omega
  have HDW := hideN (HDR.out hbig)
  clear HDR
  go_enter Try.func8, Try.ntmps8
  go_wp2_with fail
  refine HDW.out.mono ?_
  rintro e w0 ⟨vi, root, ao, n, cap, ns, rfl, hsv, hsr, hn80, hnl, hsm, hrow, hb0⟩
  have hN0 : Nds w0 ao n cap ns := nds_of_own hrow hnl
  have H64 : ∀ q ∈ ns, I64N q := fun q hq => smN64 (hsm q hq)
  have HR := sm64 hsr
  obtain ⟨W1, hW1⟩ : ∃ W1, W1 = w0.alloc (.cells #[.int .i64 vi, .slice ao n cap, .int .i64 root] 25) := ⟨_, rfl⟩
  have HK1 : Hid (BlkD W1 w0.heap.size (.int .i64 vi) (.slice ao n cap) (.int .i64 root)) := by rw [hW1]; exact BlkD.new _ _ _ _
  have HB1 : Hid (Below w.heap.size w W1) := by rw [hW1]; exact belNext hb0 (belOne _ _)
  have hN1 : Nds W1 ao n cap ns := by rw [hW1]; exact hN0.below (belOne _ _)
  have HIN := hideN (fun V (hV : Below W1.heap.size W1 V) => implBddNot_any vi root ao n cap ns V (hN1.below hV) H64 HR)
  have HSN := hideN (fun V (hV : Below W1.heap.size W1 V) => specBddNot_any vi root ao n cap ns V (hN1.below hV) H64 HR (by omega))
  have HSO := hideN (fun V (hV : Below W1.heap.size W1 V) => specBddOk_any vi root ao n cap ns V (hN1.below hV) H64 HR (by omega))
  have HIC := hideN (fun V (hV : Below W1.heap.size W1 V) => implBddCount_any vi root ao n cap ns V (hN1.below hV) H64 HR)
  have HNB := hideN (fun V (hV : Below W1.heap.size W1 V) => hN1.below hV)
  have HI64 := hideN H64
  have HIR := hideN HR
  have HFI := hideN (notA_fits (vi := vi) (ns := ns) (root := root))
  obtain ⟨A, hA⟩ : ∃ A, ansOf (bddB vi ns root) vi (notT vi ns root) = A := ⟨_, rfl⟩
  rw [hA] at HIN HSN HFI
  obtain ⟨fv, l, fr⟩ := A
  have HA := hideN hA
  have HW1 := hideN hW1
  have HNL := hideN hnl
  have c0 := HK1.out.c0
  have c1 := HK1.out.c1
  have c2 := HK1.out.c2
  have c3 := HK1.out.lt
  clear hN0 hN1 H64 HR hsm hrow hW1 hb0 hsv hsr HDW hA
  go_wp2_with fail
  try rw [← HW1.out]
  refine (HIN.out W1 (Below.refl _ _)).mono ?_
  rintro e w2 ⟨a2, m, c2', rfl, hm2, hr2, hb2⟩
  have hm64 : m ≤ 64 := by have := HFI.out.2; simp only at *; omega
  have HM2 := hideN hm2
  obtain ⟨V2, hV2⟩ : ∃ V2, V2 = w2.alloc (.cells #[.int .i64 fv, .slice a2 m c2', .int .i64 fr] 25) := ⟨_, rfl⟩
  have hb22 : Below w2.heap.size w2 V2 := by rw [hV2]; exact belOne _ _
  have HX2 : Hid (BlkD V2 w2.heap.size (.int .i64 fv) (.slice a2 m c2') (.int .i64 fr)) := by rw [hV2]; exact BlkD.new _ _ _ _
  have HRX := hideN (row_below hr2 hb22)
  have HB2 := hideN (belNext hb2 hb22)
  have HK2 := hideN ((HK1.out.below hb2).below hb22)
  have HV2 := hideN hV2
  have k0 := (HK1.out.below hb2).c0
  have k1 := (HK1.out.below hb2).c1
  have k2 := (HK1.out.below hb2).c2
  have k3 := (HK1.out.below hb2).lt
  clear hr2 hb2 hV2 hb22 c0 c1 c2 c3 hm2
  go_wp2_with fail
  try rw [← HV2.out]
  clear k0 k1 k2 k3
  obtain ⟨B3, hB3⟩ : ∃ B3, w0.heap.size = B3 := ⟨_, rfl⟩
  obtain ⟨B4, hB4⟩ : ∃ B4, w2.heap.size = B4 := ⟨_, rfl⟩
  rw [hB3] at HK2 ⊢
  rw [hB4] at HX2 ⊢
  have HC : Hid (∀ V', Below V2.heap.size V2 V' → V'.cell? ⟨B3, 0, none⟩ = some (.int .i64 vi) ∧ V'.cell? ⟨B3, 1, none⟩ = some (.slice ao n cap) ∧ V'.cell? ⟨B3, 2, none⟩ = some (.int .i64 root) ∧ V'.cell? ⟨B4, 0, none⟩ = some (.int .i64 fv) ∧ V'.cell? ⟨B4, 1, none⟩ = some (.slice a2 m c2') ∧ V'.cell? ⟨B4, 2, none⟩ = some (.int .i64 fr)) := fun V' hV => ⟨(HK2.out.below hV).c0, (HK2.out.below hV).c1, (HK2.out.below hV).c2, (HX2.out.below hV).c0, (HX2.out.below hV).c1, (HX2.out.below hV).c2⟩
  have HRG := hideN (fun V' (hV : Below V2.heap.size V2 V') a4 m4 c4 (h4 : Nds V' a4 m4 c4 l) (hm4 : m4 ≤ 100) => rgBdd_any fv fr fr a2 a4 m m4 c2' c4 l l V' (nds_of_own (row_below HRX.out hV) HM2.out) h4 HFI.out.1 HFI.out.1 (by omega) hm4)
  have hdec : (decide (fr = fr) && decide (l = l)) = true := by simp
  rw [hdec] at HRG
  clear hdec
  obtain ⟨z0, z1, z2, y0, y1, y2⟩ := HC.out V2.drew (below_drewN (Below.refl _ _) 1)
  refine region_U (fin := 9) (S := fun V' => V'.cell? ⟨B3, 0, none⟩ = some (.int .i64 vi) ∧ V'.cell? ⟨B3, 1, none⟩ = some (.slice ao n cap) ∧ V'.cell? ⟨B3, 2, none⟩ = some (.int .i64 root) ∧ V'.cell? ⟨B4, 0, none⟩ = some (.int .i64 fv) ∧ V'.cell? ⟨B4, 1, none⟩ = some (.slice a2 m c2') ∧ V'.cell? ⟨B4, 2, none⟩ = some (.int .i64 fr)) (by kernel_rfl) ⟨z0, z1, z2, y0, y1, y2⟩ (fun hHeld => ?_)
  clear hHeld
  refine takeU (i := 0) (v := .agg #[.int .i64 fv, .slice a2 m c2', .int .i64 fr]) rfl (by rfl) (by kernel_rfl) (by kernel_rfl) (by kernel_rfl) (by kernel_rfl) (by kernel_rfl) (fun _ _ _ h => h) (Or.inl ⟨by rfl, fun w hS => by obtain ⟨z0, z1, z2, y0, y1, y2⟩ := hS; go_simp⟩) ⟨z0, z1, z2, y0, y1, y2⟩ ?_
  simp only [List.getElem_toArray, List.getElem_cons_zero, Act.put, List.setIfInBounds_toArray, List.set_cons_zero, List.set_cons_succ]
  refine takeU (i := 1) (v := .agg #[.int .i64 vi, .slice ao n cap, .int .i64 root]) rfl (by rfl) (by kernel_rfl) (by kernel_rfl) (by kernel_rfl) (by kernel_rfl) (by kernel_rfl) (fun _ _ _ h => h) (Or.inl ⟨by rfl, fun w hS => by obtain ⟨z0, z1, z2, y0, y1, y2⟩ := hS; go_simp⟩) ⟨z0, z1, z2, y0, y1, y2⟩ ?_
  simp only [List.getElem_toArray, List.getElem_cons_zero, List.getElem_cons_succ, Act.put, List.setIfInBounds_toArray, List.set_cons_zero, List.set_cons_succ]
  refine oneU (i := 2) (by kernel_rfl) rfl (by rfl) ?_
  simp only [List.getElem_toArray, List.getElem_cons_zero, List.getElem_cons_succ]
  go_simp
  have hbd := below_drewN (Below.refl V2.heap.size V2) 1
  refine (HSN.out V2.drew (belNext HB2.out hbd)).mono ?_
  rintro e w3 ⟨a3, m3, c3', rfl, hm3, hr3, hb3⟩
  have HB23 := hideN (belNext hbd hb3)
  have hm34 : m3 ≤ 64 := by have := HFI.out.2; simp only at *; omega
  have HN3 := hideN (nds_of_own hr3 hm3)
  obtain ⟨z0, z1, z2, y0, y1, y2⟩ := HC.out w3 HB23.out
  refine ⟨⟨z0, z1, z2, y0, y1, y2⟩, ?_⟩
  clear hbd hb3 hr3 hm3
  refine oneU (i := 3) (by kernel_rfl) rfl (by rfl) ?_
  simp only [List.getElem_toArray, List.getElem_cons_zero, List.getElem_cons_succ]
  go_simp
  refine (HRG.out w3 HB23.out a3 m3 c3' HN3.out (by omega)).mono ?_
  rintro e w4 ⟨rfl, hb4⟩
  have HB24 := hideN (belNext HB23.out hb4)
  obtain ⟨z0, z1, z2, y0, y1, y2⟩ := HC.out w4 HB24.out
  refine ⟨⟨z0, z1, z2, y0, y1, y2⟩, ?_⟩
  clear hb4 HN3
  refine takeU (i := 4) (v := .bool false) rfl (by rfl) (by kernel_rfl) (by kernel_rfl) (by kernel_rfl) (by kernel_rfl) (by kernel_rfl) (fun _ _ _ h => h) (Or.inl ⟨by rfl, fun w hS => by obtain ⟨z0, z1, z2, y0, y1, y2⟩ := hS; go_simp⟩) ⟨z0, z1, z2, y0, y1, y2⟩ ?_
  simp only [List.getElem_toArray, List.getElem_cons_zero, List.getElem_cons_succ, Act.put, List.setIfInBounds_toArray, List.set_cons_zero, List.set_cons_succ]
  refine takeU (i := 5) (v := .bool false) rfl (by rfl) (by kernel_rfl) (by kernel_rfl) (by kernel_rfl) (by kernel_rfl) (by kernel_rfl) (fun _ _ _ h => h) (Or.inl ⟨by rfl, fun w hS => by obtain ⟨z0, z1, z2, y0, y1, y2⟩ := hS; go_simp⟩) ⟨z0, z1, z2, y0, y1, y2⟩ ?_
  simp only [List.getElem_toArray, List.getElem_cons_zero, List.getElem_cons_succ, Act.put, List.setIfInBounds_toArray, List.set_cons_zero, List.set_cons_succ]
  refine takeU (i := 6) (v := .agg #[.int .i64 vi, .slice ao n cap, .int .i64 root]) rfl (by rfl) (by kernel_rfl) (by kernel_rfl) (by kernel_rfl) (by kernel_rfl) (by kernel_rfl) (fun _ _ _ h => h) (Or.inl ⟨by rfl, fun w hS => by obtain ⟨z0, z1, z2, y0, y1, y2⟩ := hS; go_simp⟩) ⟨z0, z1, z2, y0, y1, y2⟩ ?_
  simp only [List.getElem_toArray, List.getElem_cons_zero, List.getElem_cons_succ, Act.put, List.setIfInBounds_toArray, List.set_cons_zero, List.set_cons_succ]
  refine oneU (i := 7) (by kernel_rfl) rfl (by rfl) ?_
  simp only [List.getElem_toArray, List.getElem_cons_zero, List.getElem_cons_succ]
  go_simp
  refine (HSO.out w4 (belNext HB2.out HB24.out)).mono ?_
  rintro e w5 ⟨rfl, hb5⟩
  have HB25 := hideN (belNext HB24.out hb5)
  obtain ⟨z0, z1, z2, y0, y1, y2⟩ := HC.out w5 HB25.out
  refine ⟨⟨z0, z1, z2, y0, y1, y2⟩, ?_⟩
  clear hb5
  refine oneU (i := 8) (by kernel_rfl) rfl (by rfl) ?_
  simp only [List.getElem_toArray, List.getElem_cons_zero, List.getElem_cons_succ]
  go_simp
  refine oneU (i := 9) (by kernel_rfl) rfl (by rfl) ?_
  simp only [List.getElem_toArray, List.getElem_cons_zero, List.getElem_cons_succ]
  go_simp
  refine doneU (by kernel_rfl) ?_ _
  cases hbd : bddB vi ns root with
  | false =>
    clear z0 z1 z2 y0 y1 y2
    go_wp2_with fail
    obtain ⟨z0, z1, z2, y0, y1, y2⟩ := HC.out w5.drew (belNext HB25.out (below_drewN (Below.refl _ _) 1))
    refine region_U (fin := 3) (S := fun V' => V'.cell? ⟨B3, 0, none⟩ = some (.int .i64 vi) ∧ V'.cell? ⟨B3, 1, none⟩ = some (.slice ao n cap) ∧ V'.cell? ⟨B3, 2, none⟩ = some (.int .i64 root) ∧ V'.cell? ⟨B4, 0, none⟩ = some (.int .i64 fv) ∧ V'.cell? ⟨B4, 1, none⟩ = some (.slice a2 m c2') ∧ V'.cell? ⟨B4, 2, none⟩ = some (.int .i64 fr)) (by kernel_rfl) ⟨z0, z1, z2, y0, y1, y2⟩ (fun hHeld => ?_)
    clear hHeld
    refine takeU (i := 0) (v := .agg #[.int .i64 fv, .slice a2 m c2', .int .i64 fr]) rfl (by rfl) (by kernel_rfl) (by kernel_rfl) (by kernel_rfl) (by kernel_rfl) (by kernel_rfl) (fun _ _ _ h => h) (Or.inl ⟨by rfl, fun w hS => by obtain ⟨z0, z1, z2, y0, y1, y2⟩ := hS; go_simp⟩) ⟨z0, z1, z2, y0, y1, y2⟩ ?_
    simp only [List.getElem_toArray, List.getElem_cons_zero, Act.put, List.setIfInBounds_toArray, List.set_cons_zero, List.set_cons_succ]
    refine takeU (i := 1) (v := .agg #[.int .i64 vi, .slice ao n cap, .int .i64 root]) rfl (by rfl) (by kernel_rfl) (by kernel_rfl) (by kernel_rfl) (by kernel_rfl) (by kernel_rfl) (fun _ _ _ h => h) (Or.inl ⟨by rfl, fun w hS => by obtain ⟨z0, z1, z2, y0, y1, y2⟩ := hS; go_simp⟩) ⟨z0, z1, z2, y0, y1, y2⟩ ?_
    simp only [List.getElem_toArray, List.getElem_cons_zero, List.getElem_cons_succ, Act.put, List.setIfInBounds_toArray, List.set_cons_zero, List.set_cons_succ]
    refine oneU (i := 2) (by kernel_rfl) rfl (by rfl) ?_
    simp only [List.getElem_toArray, List.getElem_cons_zero, List.getElem_cons_succ]
    go_simp
    have hbe := belNext HB25.out (below_drewN (Below.refl w5.heap.size w5) 1)
    refine (HSN.out w5.drew (belNext HB2.out hbe)).mono ?_
    rintro e w6 ⟨a6, m6, c6', rfl, hm6, hr6, hb6⟩
    have HB26 := hideN (belNext hbe hb6)
    have hm64' : m6 ≤ 64 := by have := HFI.out.2; simp only at *; omega
    have HN6 := hideN (nds_of_own hr6 hm6)
    obtain ⟨z0, z1, z2, y0, y1, y2⟩ := HC.out w6 HB26.out
    refine ⟨⟨z0, z1, z2, y0, y1, y2⟩, ?_⟩
    clear hbe hb6 hr6 hm6
    refine oneU (i := 3) (by kernel_rfl) rfl (by rfl) ?_
    simp only [List.getElem_toArray, List.getElem_cons_zero, List.getElem_cons_succ]
    go_simp
    refine (HRG.out w6 HB26.out a6 m6 c6' HN6.out (by omega)).mono ?_
    rintro e w7 ⟨rfl, hb7⟩
    have HBE := hideN (belNext HB1.out (belNext HB2.out (belNext HB26.out hb7)))
    clear hb7
    refine oneU (i := 4) (by kernel_rfl) rfl (by rfl) ?_
    simp only [List.getElem_toArray, List.getElem_cons_zero, List.getElem_cons_succ]
    go_simp
    refine doneU (by kernel_rfl) ?_ _
    go_wp2
    go_ret
    exact ⟨rfl, HBE.out⟩
  | true =>
  obtain ⟨V, rfl, h6, -⟩ := bdd_split hbd
  have hNF := not_facts h6 hbd
  have hA2 := HA.out
  rw [hbd] at hA2
  unfold ansOf at hA2
  rw [if_pos rfl, Int.toNat_natCast] at hA2
  simp only [Prod.mk.injEq] at hA2
  obtain ⟨e1, e2, e3⟩ := hA2
  rw [e2, e3] at hNF
  subst e1
  have hlm : m = n := by rw [← HM2.out, ← HNL.out]; exact hNF.len
  subst hlm
  have HNX := hideN (fun V' (hV : Below V2.heap.size V2 V') => nds_of_own (row_below HRX.out hV) HM2.out)
  have hl64 : ∀ q ∈ l, I64N q := fun q hq => fit64 (HFI.out.1 q hq)
  have hfr : 0 ≤ fr ∧ fr ≤ 65 := by
    have hg := hNF.ok
    obtain ⟨V', hVV, _, hnn, _, h0, h1⟩ := bdd_split hg
    exact ⟨h0, by omega⟩
  have hfr64 : I64 fr := by unfold I64; omega
  have hTB : twoB { data := #[38] } (V : Int) ns root (V : Int) l fr = true := by unfold twoB; rw [hbd, hNF.ok, opOf_and]; simp
  have hTB2 : twoB { data := #[124] } (V : Int) ns root (V : Int) l fr = true := by unfold twoB; rw [hbd, hNF.ok, opOf_or]; simp
  have HT1 : Hid (∀ V', Below V2.heap.size V2 V' → Calls Try.prog 45 #[.string { data := #[38] }, .agg #[.int .i64 (V : Int), .slice ao m cap, .int .i64 root], .agg #[.int .i64 (V : Int), .slice a2 m c2', .int .i64 fr]] V' (TwoPost ((V : Int), [], 0) true V')) := fun V' hV => by
    have h := implBddTwo_any { data := #[38] } (V : Int) root (V : Int) fr ao a2 m cap m c2' ns l V' (HNB.out V' (belNext HB2.out hV)) HI64.out HIR.out (HNX.out V' hV) hl64 hfr64
    rw [hTB] at h
    unfold ansOf twoOp at h
    rw [opOf_and, if_pos rfl, Int.toNat_natCast, Option.getD_some, hNF.both] at h
    exact h
  have HT2 : Hid (∀ V', Below V2.heap.size V2 V' → Calls Try.prog 45 #[.string { data := #[124] }, .agg #[.int .i64 (V : Int), .slice ao m cap, .int .i64 root], .agg #[.int .i64 (V : Int), .slice a2 m c2', .int .i64 fr]] V' (TwoPost ((V : Int), [], 1) true V')) := fun V' hV => by
    have h := implBddTwo_any { data := #[124] } (V : Int) root (V : Int) fr ao a2 m cap m c2' ns l V' (HNB.out V' (belNext HB2.out hV)) HI64.out HIR.out (HNX.out V' hV) hl64 hfr64
    rw [hTB2] at h
    unfold ansOf twoOp at h
    rw [opOf_or, if_pos rfl, Int.toNat_natCast, Option.getD_some, hNF.either] at h
    exact h
  have HNN : Hid (∀ V', Below V2.heap.size V2 V' → Calls Try.prog 43 #[.agg #[.int .i64 (V : Int), .slice a2 m c2', .int .i64 fr]] V' (BddPost (V : Int) ns root V')) := fun V' hV => by
    have h := implBddNot_any (V : Int) fr a2 m c2' l V' (HNX.out V' hV) hl64 hfr64
    rw [hNF.ok] at h
    unfold AnsPost ansOf at h
    rw [if_pos rfl, Int.toNat_natCast, hNF.back] at h
    exact h
  have HCX := hideN (fun V' (hV : Below V2.heap.size V2 V') => implBddCount_any (V : Int) fr a2 m c2' l V' (HNX.out V' hV) hl64 hfr64)
  have HCA := hideN (fun V' (a7 : Option Addr) (n7 c7 : Nat) (h7 : Nds V' a7 n7 c7 []) => implBddCount_any (V : Int) 1 a7 n7 c7 [] V' h7 (by simp) (by unfold I64; omega))
  have HFB : Hid (∀ p ∈ ns, FitN p) := by
    obtain ⟨V', hVV, _, hnn, hok, _, _⟩ := bdd_split hbd
    obtain rfl : V' = V := by omega
    exact nodes_fit h6 hnn hok
  have hcb : 0 ≤ countZ (V : Int) ns root ∧ countZ (V : Int) ns root ≤ 64 := count_small h6 hbd
  have hcx : 0 ≤ countZ (V : Int) l fr ∧ countZ (V : Int) l fr ≤ 64 := count_small h6 hNF.ok
  have hcs := hNF.count
  clear hNF hTB hTB2 hl64 hfr hfr64 e2 e3 HI64 HIR
  generalize countZ (V : Int) ns root = cb at *
  generalize countZ (V : Int) l fr = cx at *
  generalize countZ (V : Int) [] 1 = ca at *
  have hca0 : 0 ≤ ca := by omega
  have hca1 : ca ≤ 128 := by omega
  have hwr : IntKind.i64.wrap ca = ca := by rw [IntKind.wrap_i64]; omega
  go_wp2_with fail
  refine (HT1.out w5 HB25.out).mono ?_
  rintro e w6 ⟨a6, n6, c6', rfl, hn6, hr6, hb6⟩
  obtain ⟨V6, hV6⟩ : ∃ V6, V6 = w6.alloc (.cells #[.int .i64 (V : Int), .slice a6 n6 c6', .int .i64 0] 25) := ⟨_, rfl⟩
  have hb66 : Below w6.heap.size w6 V6 := by rw [hV6]; exact belOne _ _
  have HQ6 : Hid (BlkD V6 w6.heap.size (.int .i64 (V : Int)) (.slice a6 n6 c6') (.int .i64 0)) := by rw [hV6]; exact BlkD.new _ _ _ _
  have HB26 := hideN (belNext HB25.out hb6)
  have HB26b := hideN (belNext (belNext HB25.out hb6) hb66)
  have HV6 := hideN hV6
  clear hb6 hr6 hn6 hb66 hV6 z0 z1 z2 y0 y1 y2
  obtain ⟨z0, z1, z2, y0, y1, y2⟩ := HC.out w6 HB26.out
  have hl3 : B3 < w6.heap.size := cell_lt z0
  have hl4 : B4 < w6.heap.size := cell_lt y0
  go_wp2_with fail
  try rw [← HV6.out]
  obtain ⟨B5, hB5⟩ : ∃ B5, w6.heap.size = B5 := ⟨_, rfl⟩
  rw [hB5] at HQ6 ⊢
  clear z0 z1 z2 y0 y1 y2 hl3 hl4
  refine (HT2.out V6 HB26b.out).mono ?_
  rintro e w7 ⟨a7, n7, c7', rfl, hn7, hr7, hb7⟩
  obtain ⟨V7, hV7⟩ : ∃ V7, V7 = w7.alloc (.cells #[.int .i64 (V : Int), .slice a7 n7 c7', .int .i64 1] 25) := ⟨_, rfl⟩
  have hb77 : Below w7.heap.size w7 V7 := by rw [hV7]; exact belOne _ _
  have HQ7 : Hid (BlkD V7 w7.heap.size (.int .i64 (V : Int)) (.slice a7 n7 c7') (.int .i64 1)) := by rw [hV7]; exact BlkD.new _ _ _ _
  have HQ67 := hideN ((HQ6.out.below hb7).below hb77)
  have HB27 := hideN (belNext (belNext HB26b.out hb7) hb77)
  have HN7 := hideN (nds_of_own (row_below hr7 hb77) hn7)
  have HV7 := hideN hV7
  clear hb7 hr7 hn7 hb77 hV7
  go_wp2_with fail
  try rw [← HV7.out]
  obtain ⟨B7, hB7⟩ : ∃ B7, w7.heap.size = B7 := ⟨_, rfl⟩
  rw [hB7] at HQ7 ⊢
  have HD : Hid (∀ V', Below V7.heap.size V7 V' → V'.cell? ⟨B3, 0, none⟩ = some (.int .i64 (V : Int)) ∧ V'.cell? ⟨B3, 1, none⟩ = some (.slice ao m cap) ∧ V'.cell? ⟨B3, 2, none⟩ = some (.int .i64 root) ∧ V'.cell? ⟨B4, 0, none⟩ = some (.int .i64 (V : Int)) ∧ V'.cell? ⟨B4, 1, none⟩ = some (.slice a2 m c2') ∧ V'.cell? ⟨B4, 2, none⟩ = some (.int .i64 fr) ∧ V'.cell? ⟨B5, 2, none⟩ = some (.int .i64 0) ∧ V'.cell? ⟨B7, 0, none⟩ = some (.int .i64 (V : Int)) ∧ V'.cell? ⟨B7, 1, none⟩ = some (.slice a7 n7 c7') ∧ V'.cell? ⟨B7, 2, none⟩ = some (.int .i64 1)) := fun V' hV => by
    obtain ⟨q0, q1, q2, q3, q4, q5⟩ := HC.out V' (belNext HB27.out hV)
    exact ⟨q0, q1, q2, q3, q4, q5, (HQ67.out.below hV).c2, (HQ7.out.below hV).c0, (HQ7.out.below hV).c1, (HQ7.out.below hV).c2⟩
  obtain ⟨z0, z1, z2, y0, y1, y2, x5, x0, x1, x2⟩ := HD.out V7.drew (below_drewN (Below.refl _ _) 1)
  refine region_U (fin := 39) (S := fun V' => V'.cell? ⟨B3, 0, none⟩ = some (.int .i64 (V : Int)) ∧ V'.cell? ⟨B3, 1, none⟩ = some (.slice ao m cap) ∧ V'.cell? ⟨B3, 2, none⟩ = some (.int .i64 root) ∧ V'.cell? ⟨B4, 0, none⟩ = some (.int .i64 (V : Int)) ∧ V'.cell? ⟨B4, 1, none⟩ = some (.slice a2 m c2') ∧ V'.cell? ⟨B4, 2, none⟩ = some (.int .i64 fr) ∧ V'.cell? ⟨B5, 2, none⟩ = some (.int .i64 0) ∧ V'.cell? ⟨B7, 0, none⟩ = some (.int .i64 (V : Int)) ∧ V'.cell? ⟨B7, 1, none⟩ = some (.slice a7 n7 c7') ∧ V'.cell? ⟨B7, 2, none⟩ = some (.int .i64 1)) (by kernel_rfl) ⟨z0, z1, z2, y0, y1, y2, x5, x0, x1, x2⟩ (fun hHeld => ?_)
  clear hHeld
  refine takeU (i := 0) (v := .agg #[.int .i64 (V : Int), .slice a2 m c2', .int .i64 fr]) rfl (by rfl) (by kernel_rfl) (by kernel_rfl) (reach_one (by kernel_rfl)) (by kernel_rfl) (by kernel_rfl) (fun _ _ _ h => h) (Or.inl ⟨by rfl, fun w hS => by obtain ⟨z0, z1, z2, y0, y1, y2, x5, x0, x1, x2⟩ := hS; go_simp⟩) ⟨z0, z1, z2, y0, y1, y2, x5, x0, x1, x2⟩ ?_
  simp only [List.getElem_toArray, List.getElem_cons_zero, Act.put, List.setIfInBounds_toArray, List.set_cons_zero, List.set_cons_succ]
  refine takeU (i := 2) (v := .agg #[.int .i64 (V : Int), .slice ao m cap, .int .i64 root]) rfl (by rfl) (by kernel_rfl) (by kernel_rfl) (reach_one (by kernel_rfl)) (by kernel_rfl) (by kernel_rfl) (fun _ _ _ h => h) (Or.inl ⟨by rfl, fun w hS => by obtain ⟨z0, z1, z2, y0, y1, y2, x5, x0, x1, x2⟩ := hS; go_simp⟩) ⟨z0, z1, z2, y0, y1, y2, x5, x0, x1, x2⟩ ?_
  simp only [List.getElem_toArray, List.getElem_cons_zero, List.getElem_cons_succ, Act.put, List.setIfInBounds_toArray, List.set_cons_zero, List.set_cons_succ]
  refine oneU (i := 1) (by kernel_rfl) rfl (by rfl) ?_
  simp only [List.getElem_toArray, List.getElem_cons_zero, List.getElem_cons_succ]
  go_simp
  have hbz := below_drewN (Below.refl V7.heap.size V7) 1
  refine (HNN.out V7.drew (belNext HB27.out hbz)).mono ?_
  rintro e w8 ⟨a8, n8, c8', rfl, hn8, hr8, hb8⟩
  have HB78 := hideN (belNext hbz hb8)
  have HN8 := hideN (nds_of_own hr8 hn8)
  have hn8m : m = n8 := by rw [← hn8, HNL.out]
  subst hn8m
  obtain ⟨z0, z1, z2, y0, y1, y2, x5, x0, x1, x2⟩ := HD.out w8 HB78.out
  refine ⟨⟨z0, z1, z2, y0, y1, y2, x5, x0, x1, x2⟩, ?_⟩
  clear hbz hb8 hr8 hn8
  refine oneU (i := 3) (by kernel_rfl) rfl (by rfl) ?_
  simp only [List.getElem_toArray, List.getElem_cons_zero, List.getElem_cons_succ]
  go_simp
  refine (rgBdd_any (V : Int) root root a8 ao m m c8' cap ns ns w8 HN8.out (HNB.out w8 (belNext HB2.out (belNext HB27.out HB78.out))) HFB.out HFB.out (by omega) (by omega)).mono ?_
  rintro e w9 ⟨rfl, hb9⟩
  have hdec : (decide (root = root) && decide (ns = ns)) = true := by simp
  rw [hdec]
  have HB79 := hideN (belNext HB78.out hb9)
  obtain ⟨z0, z1, z2, y0, y1, y2, x5, x0, x1, x2⟩ := HD.out w9 HB79.out
  refine ⟨⟨z0, z1, z2, y0, y1, y2, x5, x0, x1, x2⟩, ?_⟩
  clear hb9 hdec
  refine takeU (i := 4) (v := .bool true) rfl (by rfl) (by kernel_rfl) (by kernel_rfl) (reach_one (by kernel_rfl)) (by kernel_rfl) (by kernel_rfl) (fun _ _ _ h => h) (Or.inl ⟨by rfl, fun w hS => by obtain ⟨z0, z1, z2, y0, y1, y2, x5, x0, x1, x2⟩ := hS; go_simp⟩) ⟨z0, z1, z2, y0, y1, y2, x5, x0, x1, x2⟩ ?_
  simp only [List.getElem_toArray, List.getElem_cons_zero, List.getElem_cons_succ, Act.put, List.setIfInBounds_toArray, List.set_cons_zero, List.set_cons_succ]
  refine takeU (i := 5) (v := .pointer (some ⟨B4, 1, none⟩)) rfl (by rfl) (by kernel_rfl) (by kernel_rfl) (reach_one (by kernel_rfl)) (by kernel_rfl) (by kernel_rfl) (fun _ _ _ h => h) (Or.inl ⟨by rfl, fun w hS => by obtain ⟨z0, z1, z2, y0, y1, y2, x5, x0, x1, x2⟩ := hS; go_simp⟩) ⟨z0, z1, z2, y0, y1, y2, x5, x0, x1, x2⟩ ?_
  simp only [List.getElem_toArray, List.getElem_cons_zero, List.getElem_cons_succ, Act.put, List.setIfInBounds_toArray, List.set_cons_zero, List.set_cons_succ]
  refine takeU (i := 6) (v := .slice a2 m c2') rfl (by rfl) (by kernel_rfl) (by kernel_rfl) (reach_one (by kernel_rfl)) (by kernel_rfl) (by kernel_rfl) (fun _ _ _ h => h) (Or.inl ⟨by rfl, fun w hS => by obtain ⟨z0, z1, z2, y0, y1, y2, x5, x0, x1, x2⟩ := hS; go_simp⟩) ⟨z0, z1, z2, y0, y1, y2, x5, x0, x1, x2⟩ ?_
  simp only [List.getElem_toArray, List.getElem_cons_zero, List.getElem_cons_succ, Act.put, List.setIfInBounds_toArray, List.set_cons_zero, List.set_cons_succ]
  refine takeU (i := 7) (v := .int .i64 (m : Int)) rfl (by rfl) (by kernel_rfl) (by kernel_rfl) (reach_one (by kernel_rfl)) (by kernel_rfl) (by kernel_rfl) (fun _ _ _ h => h) (Or.inl ⟨by rfl, fun w hS => by obtain ⟨z0, z1, z2, y0, y1, y2, x5, x0, x1, x2⟩ := hS; go_simp⟩) ⟨z0, z1, z2, y0, y1, y2, x5, x0, x1, x2⟩ ?_
  simp only [List.getElem_toArray, List.getElem_cons_zero, List.getElem_cons_succ, Act.put, List.setIfInBounds_toArray, List.set_cons_zero, List.set_cons_succ]
  refine takeU (i := 8) (v := .pointer (some ⟨B3, 1, none⟩)) rfl (by rfl) (by kernel_rfl) (by kernel_rfl) (reach_one (by kernel_rfl)) (by kernel_rfl) (by kernel_rfl) (fun _ _ _ h => h) (Or.inl ⟨by rfl, fun w hS => by obtain ⟨z0, z1, z2, y0, y1, y2, x5, x0, x1, x2⟩ := hS; go_simp⟩) ⟨z0, z1, z2, y0, y1, y2, x5, x0, x1, x2⟩ ?_
  simp only [List.getElem_toArray, List.getElem_cons_zero, List.getElem_cons_succ, Act.put, List.setIfInBounds_toArray, List.set_cons_zero, List.set_cons_succ]
  refine takeU (i := 9) (v := .slice ao m cap) rfl (by rfl) (by kernel_rfl) (by kernel_rfl) (reach_one (by kernel_rfl)) (by kernel_rfl) (by kernel_rfl) (fun _ _ _ h => h) (Or.inl ⟨by rfl, fun w hS => by obtain ⟨z0, z1, z2, y0, y1, y2, x5, x0, x1, x2⟩ := hS; go_simp⟩) ⟨z0, z1, z2, y0, y1, y2, x5, x0, x1, x2⟩ ?_
  simp only [List.getElem_toArray, List.getElem_cons_zero, List.getElem_cons_succ, Act.put, List.setIfInBounds_toArray, List.set_cons_zero, List.set_cons_succ]
  refine takeU (i := 10) (v := .int .i64 (m : Int)) rfl (by rfl) (by kernel_rfl) (by kernel_rfl) (reach_one (by kernel_rfl)) (by kernel_rfl) (by kernel_rfl) (fun _ _ _ h => h) (Or.inl ⟨by rfl, fun w hS => by obtain ⟨z0, z1, z2, y0, y1, y2, x5, x0, x1, x2⟩ := hS; go_simp⟩) ⟨z0, z1, z2, y0, y1, y2, x5, x0, x1, x2⟩ ?_
  simp only [List.getElem_toArray, List.getElem_cons_zero, List.getElem_cons_succ, Act.put, List.setIfInBounds_toArray, List.set_cons_zero, List.set_cons_succ]
  refine takeU (i := 11) (v := .bool true) rfl (by rfl) (by kernel_rfl) (by kernel_rfl) (reach_one (by kernel_rfl)) (by kernel_rfl) (by kernel_rfl) (fun _ _ _ h => h) (Or.inl ⟨by rfl, fun w hS => by obtain ⟨z0, z1, z2, y0, y1, y2, x5, x0, x1, x2⟩ := hS; go_simp⟩) ⟨z0, z1, z2, y0, y1, y2, x5, x0, x1, x2⟩ ?_
  simp only [List.getElem_toArray, List.getElem_cons_zero, List.getElem_cons_succ, Act.put, List.setIfInBounds_toArray, List.set_cons_zero, List.set_cons_succ]
  refine takeU (i := 12) (v := .bool true) rfl (by rfl) (by kernel_rfl) (by kernel_rfl) (reach_one (by kernel_rfl)) (by kernel_rfl) (by kernel_rfl) (fun _ _ _ h => h) (Or.inl ⟨by rfl, fun w hS => by obtain ⟨z0, z1, z2, y0, y1, y2, x5, x0, x1, x2⟩ := hS; go_simp⟩) ⟨z0, z1, z2, y0, y1, y2, x5, x0, x1, x2⟩ ?_
  simp only [List.getElem_toArray, List.getElem_cons_zero, List.getElem_cons_succ, Act.put, List.setIfInBounds_toArray, List.set_cons_zero, List.set_cons_succ]
  refine takeU (i := 13) (v := .bool true) rfl (by rfl) (by kernel_rfl) (by kernel_rfl) (reach_one (by kernel_rfl)) (by kernel_rfl) (by kernel_rfl) (fun _ _ _ h => h) (Or.inl ⟨by rfl, fun w hS => by obtain ⟨z0, z1, z2, y0, y1, y2, x5, x0, x1, x2⟩ := hS; go_simp⟩) ⟨z0, z1, z2, y0, y1, y2, x5, x0, x1, x2⟩ ?_
  simp only [List.getElem_toArray, List.getElem_cons_zero, List.getElem_cons_succ, Act.put, List.setIfInBounds_toArray, List.set_cons_zero, List.set_cons_succ]
  refine takeU (i := 14) (v := .bool true) rfl (by rfl) (by kernel_rfl) (by kernel_rfl) (reach_one (by kernel_rfl)) (by kernel_rfl) (by kernel_rfl) (fun _ _ _ h => h) (Or.inl ⟨by rfl, fun w hS => by obtain ⟨z0, z1, z2, y0, y1, y2, x5, x0, x1, x2⟩ := hS; go_simp⟩) ⟨z0, z1, z2, y0, y1, y2, x5, x0, x1, x2⟩ ?_
  simp only [List.getElem_toArray, List.getElem_cons_zero, List.getElem_cons_succ, Act.put, List.setIfInBounds_toArray, List.set_cons_zero, List.set_cons_succ]
  refine takeU (i := 15) (v := .bool true) rfl (by rfl) (by kernel_rfl) (by kernel_rfl) (reach_one (by kernel_rfl)) (by kernel_rfl) (by kernel_rfl) (fun _ _ _ h => h) (Or.inl ⟨by rfl, fun w hS => by obtain ⟨z0, z1, z2, y0, y1, y2, x5, x0, x1, x2⟩ := hS; go_simp⟩) ⟨z0, z1, z2, y0, y1, y2, x5, x0, x1, x2⟩ ?_
  simp only [List.getElem_toArray, List.getElem_cons_zero, List.getElem_cons_succ, Act.put, List.setIfInBounds_toArray, List.set_cons_zero, List.set_cons_succ]
  refine takeU (i := 16) (v := .bool true) rfl (by rfl) (by kernel_rfl) (by kernel_rfl) (reach_one (by kernel_rfl)) (by kernel_rfl) (by kernel_rfl) (fun _ _ _ h => h) (Or.inl ⟨by rfl, fun w hS => by obtain ⟨z0, z1, z2, y0, y1, y2, x5, x0, x1, x2⟩ := hS; go_simp⟩) ⟨z0, z1, z2, y0, y1, y2, x5, x0, x1, x2⟩ ?_
  simp only [List.getElem_toArray, List.getElem_cons_zero, List.getElem_cons_succ, Act.put, List.setIfInBounds_toArray, List.set_cons_zero, List.set_cons_succ]
  refine takeU (i := 17) (v := .pointer (some ⟨B5, 2, none⟩)) rfl (by rfl) (by kernel_rfl) (by kernel_rfl) (reach_one (by kernel_rfl)) (by kernel_rfl) (by kernel_rfl) (fun _ _ _ h => h) (Or.inl ⟨by rfl, fun w hS => by obtain ⟨z0, z1, z2, y0, y1, y2, x5, x0, x1, x2⟩ := hS; go_simp⟩) ⟨z0, z1, z2, y0, y1, y2, x5, x0, x1, x2⟩ ?_
  simp only [List.getElem_toArray, List.getElem_cons_zero, List.getElem_cons_succ, Act.put, List.setIfInBounds_toArray, List.set_cons_zero, List.set_cons_succ]
  refine takeU (i := 18) (v := .int .i64 0) rfl (by rfl) (by kernel_rfl) (by kernel_rfl) (reach_one (by kernel_rfl)) (by kernel_rfl) (by kernel_rfl) (fun _ _ _ h => h) (Or.inl ⟨by rfl, fun w hS => by obtain ⟨z0, z1, z2, y0, y1, y2, x5, x0, x1, x2⟩ := hS; go_simp⟩) ⟨z0, z1, z2, y0, y1, y2, x5, x0, x1, x2⟩ ?_
  simp only [List.getElem_toArray, List.getElem_cons_zero, List.getElem_cons_succ, Act.put, List.setIfInBounds_toArray, List.set_cons_zero, List.set_cons_succ]
  refine takeU (i := 19) (v := .bool true) rfl (by rfl) (by kernel_rfl) (by kernel_rfl) (reach_one (by kernel_rfl)) (by kernel_rfl) (by kernel_rfl) (fun _ _ _ h => h) (Or.inl ⟨by rfl, fun w hS => by obtain ⟨z0, z1, z2, y0, y1, y2, x5, x0, x1, x2⟩ := hS; go_simp⟩) ⟨z0, z1, z2, y0, y1, y2, x5, x0, x1, x2⟩ ?_
  simp only [List.getElem_toArray, List.getElem_cons_zero, List.getElem_cons_succ, Act.put, List.setIfInBounds_toArray, List.set_cons_zero, List.set_cons_succ]
  refine takeU (i := 20) (v := .bool true) rfl (by rfl) (by kernel_rfl) (by kernel_rfl) (reach_one (by kernel_rfl)) (by kernel_rfl) (by kernel_rfl) (fun _ _ _ h => h) (Or.inl ⟨by rfl, fun w hS => by obtain ⟨z0, z1, z2, y0, y1, y2, x5, x0, x1, x2⟩ := hS; go_simp⟩) ⟨z0, z1, z2, y0, y1, y2, x5, x0, x1, x2⟩ ?_
  simp only [List.getElem_toArray, List.getElem_cons_zero, List.getElem_cons_succ, Act.put, List.setIfInBounds_toArray, List.set_cons_zero, List.set_cons_succ]
  refine takeU (i := 21) (v := .bool true) rfl (by rfl) (by kernel_rfl) (by kernel_rfl) (reach_one (by kernel_rfl)) (by kernel_rfl) (by kernel_rfl) (fun _ _ _ h => h) (Or.inl ⟨by rfl, fun w hS => by obtain ⟨z0, z1, z2, y0, y1, y2, x5, x0, x1, x2⟩ := hS; go_simp⟩) ⟨z0, z1, z2, y0, y1, y2, x5, x0, x1, x2⟩ ?_
  simp only [List.getElem_toArray, List.getElem_cons_zero, List.getElem_cons_succ, Act.put, List.setIfInBounds_toArray, List.set_cons_zero, List.set_cons_succ]
  refine takeU (i := 22) (v := .bool true) rfl (by rfl) (by kernel_rfl) (by kernel_rfl) (reach_one (by kernel_rfl)) (by kernel_rfl) (by kernel_rfl) (fun _ _ _ h => h) (Or.inl ⟨by rfl, fun w hS => by obtain ⟨z0, z1, z2, y0, y1, y2, x5, x0, x1, x2⟩ := hS; go_simp⟩) ⟨z0, z1, z2, y0, y1, y2, x5, x0, x1, x2⟩ ?_
  simp only [List.getElem_toArray, List.getElem_cons_zero, List.getElem_cons_succ, Act.put, List.setIfInBounds_toArray, List.set_cons_zero, List.set_cons_succ]
  refine takeU (i := 23) (v := .bool true) rfl (by rfl) (by kernel_rfl) (by kernel_rfl) (reach_one (by kernel_rfl)) (by kernel_rfl) (by kernel_rfl) (fun _ _ _ h => h) (Or.inl ⟨by rfl, fun w hS => by obtain ⟨z0, z1, z2, y0, y1, y2, x5, x0, x1, x2⟩ := hS; go_simp⟩) ⟨z0, z1, z2, y0, y1, y2, x5, x0, x1, x2⟩ ?_
  simp only [List.getElem_toArray, List.getElem_cons_zero, List.getElem_cons_succ, Act.put, List.setIfInBounds_toArray, List.set_cons_zero, List.set_cons_succ]
  refine takeU (i := 24) (v := .bool true) rfl (by rfl) (by kernel_rfl) (by kernel_rfl) (reach_one (by kernel_rfl)) (by kernel_rfl) (by kernel_rfl) (fun _ _ _ h => h) (Or.inl ⟨by rfl, fun w hS => by obtain ⟨z0, z1, z2, y0, y1, y2, x5, x0, x1, x2⟩ := hS; go_simp⟩) ⟨z0, z1, z2, y0, y1, y2, x5, x0, x1, x2⟩ ?_
  simp only [List.getElem_toArray, List.getElem_cons_zero, List.getElem_cons_succ, Act.put, List.setIfInBounds_toArray, List.set_cons_zero, List.set_cons_succ]
  refine takeU (i := 25) (v := .pointer (some ⟨B7, 2, none⟩)) rfl (by rfl) (by kernel_rfl) (by kernel_rfl) (reach_one (by kernel_rfl)) (by kernel_rfl) (by kernel_rfl) (fun _ _ _ h => h) (Or.inl ⟨by rfl, fun w hS => by obtain ⟨z0, z1, z2, y0, y1, y2, x5, x0, x1, x2⟩ := hS; go_simp⟩) ⟨z0, z1, z2, y0, y1, y2, x5, x0, x1, x2⟩ ?_
  simp only [List.getElem_toArray, List.getElem_cons_zero, List.getElem_cons_succ, Act.put, List.setIfInBounds_toArray, List.set_cons_zero, List.set_cons_succ]
  refine takeU (i := 26) (v := .int .i64 1) rfl (by rfl) (by kernel_rfl) (by kernel_rfl) (reach_one (by kernel_rfl)) (by kernel_rfl) (by kernel_rfl) (fun _ _ _ h => h) (Or.inl ⟨by rfl, fun w hS => by obtain ⟨z0, z1, z2, y0, y1, y2, x5, x0, x1, x2⟩ := hS; go_simp⟩) ⟨z0, z1, z2, y0, y1, y2, x5, x0, x1, x2⟩ ?_
  simp only [List.getElem_toArray, List.getElem_cons_zero, List.getElem_cons_succ, Act.put, List.setIfInBounds_toArray, List.set_cons_zero, List.set_cons_succ]
  refine takeU (i := 27) (v := .bool true) rfl (by rfl) (by kernel_rfl) (by kernel_rfl) (reach_one (by kernel_rfl)) (by kernel_rfl) (by kernel_rfl) (fun _ _ _ h => h) (Or.inl ⟨by rfl, fun w hS => by obtain ⟨z0, z1, z2, y0, y1, y2, x5, x0, x1, x2⟩ := hS; go_simp⟩) ⟨z0, z1, z2, y0, y1, y2, x5, x0, x1, x2⟩ ?_
  simp only [List.getElem_toArray, List.getElem_cons_zero, List.getElem_cons_succ, Act.put, List.setIfInBounds_toArray, List.set_cons_zero, List.set_cons_succ]
  refine takeU (i := 28) (v := .bool true) rfl (by rfl) (by kernel_rfl) (by kernel_rfl) (reach_one (by kernel_rfl)) (by kernel_rfl) (by kernel_rfl) (fun _ _ _ h => h) (Or.inl ⟨by rfl, fun w hS => by obtain ⟨z0, z1, z2, y0, y1, y2, x5, x0, x1, x2⟩ := hS; go_simp⟩) ⟨z0, z1, z2, y0, y1, y2, x5, x0, x1, x2⟩ ?_
  simp only [List.getElem_toArray, List.getElem_cons_zero, List.getElem_cons_succ, Act.put, List.setIfInBounds_toArray, List.set_cons_zero, List.set_cons_succ]
  refine takeU (i := 29) (v := .bool true) rfl (by rfl) (by kernel_rfl) (by kernel_rfl) (reach_one (by kernel_rfl)) (by kernel_rfl) (by kernel_rfl) (fun _ _ _ h => h) (Or.inl ⟨by rfl, fun w hS => by obtain ⟨z0, z1, z2, y0, y1, y2, x5, x0, x1, x2⟩ := hS; go_simp⟩) ⟨z0, z1, z2, y0, y1, y2, x5, x0, x1, x2⟩ ?_
  simp only [List.getElem_toArray, List.getElem_cons_zero, List.getElem_cons_succ, Act.put, List.setIfInBounds_toArray, List.set_cons_zero, List.set_cons_succ]
  refine takeU (i := 30) (v := .agg #[.int .i64 (V : Int), .slice ao m cap, .int .i64 root]) rfl (by rfl) (by kernel_rfl) (by kernel_rfl) (reach_one (by kernel_rfl)) (by kernel_rfl) (by kernel_rfl) (fun _ _ _ h => h) (Or.inl ⟨by rfl, fun w hS => by obtain ⟨z0, z1, z2, y0, y1, y2, x5, x0, x1, x2⟩ := hS; go_simp⟩) ⟨z0, z1, z2, y0, y1, y2, x5, x0, x1, x2⟩ ?_
  simp only [List.getElem_toArray, List.getElem_cons_zero, List.getElem_cons_succ, Act.put, List.setIfInBounds_toArray, List.set_cons_zero, List.set_cons_succ]
  refine takeU (i := 32) (v := .agg #[.int .i64 (V : Int), .slice a2 m c2', .int .i64 fr]) rfl (by rfl) (by kernel_rfl) (by kernel_rfl) (reach_one (by kernel_rfl)) (by kernel_rfl) (by kernel_rfl) (fun _ _ _ h => h) (Or.inl ⟨by rfl, fun w hS => by obtain ⟨z0, z1, z2, y0, y1, y2, x5, x0, x1, x2⟩ := hS; go_simp⟩) ⟨z0, z1, z2, y0, y1, y2, x5, x0, x1, x2⟩ ?_
  simp only [List.getElem_toArray, List.getElem_cons_zero, List.getElem_cons_succ, Act.put, List.setIfInBounds_toArray, List.set_cons_zero, List.set_cons_succ]
  refine takeU (i := 35) (v := .agg #[.int .i64 (V : Int), .slice a7 n7 c7', .int .i64 1]) rfl (by rfl) (by kernel_rfl) (by kernel_rfl) (reach_one (by kernel_rfl)) (by kernel_rfl) (by kernel_rfl) (fun _ _ _ h => h) (Or.inl ⟨by rfl, fun w hS => by obtain ⟨z0, z1, z2, y0, y1, y2, x5, x0, x1, x2⟩ := hS; go_simp⟩) ⟨z0, z1, z2, y0, y1, y2, x5, x0, x1, x2⟩ ?_
  simp only [List.getElem_toArray, List.getElem_cons_zero, List.getElem_cons_succ, Act.put, List.setIfInBounds_toArray, List.set_cons_zero, List.set_cons_succ]
  refine oneU (i := 31) (by kernel_rfl) rfl (by rfl) ?_
  simp only [List.getElem_toArray, List.getElem_cons_zero, List.getElem_cons_succ]
  go_simp
  refine (HIC.out w9 (belNext HB2.out (belNext HB27.out HB79.out))).mono ?_
  rintro e w10 ⟨rfl, hb10⟩
  have HB710 := hideN (belNext HB79.out hb10)
  obtain ⟨z0, z1, z2, y0, y1, y2, x5, x0, x1, x2⟩ := HD.out w10 HB710.out
  refine ⟨⟨z0, z1, z2, y0, y1, y2, x5, x0, x1, x2⟩, ?_⟩
  clear hb10
  refine oneU (i := 33) (by kernel_rfl) rfl (by rfl) ?_
  simp only [List.getElem_toArray, List.getElem_cons_zero, List.getElem_cons_succ]
  go_simp
  refine (HCX.out w10 (belNext HB27.out HB710.out)).mono ?_
  rintro e w11 ⟨rfl, hb11⟩
  have HB711 := hideN (belNext HB710.out hb11)
  obtain ⟨z0, z1, z2, y0, y1, y2, x5, x0, x1, x2⟩ := HD.out w11 HB711.out
  refine ⟨⟨z0, z1, z2, y0, y1, y2, x5, x0, x1, x2⟩, ?_⟩
  clear hb11
  refine takeU (i := 34) (v := .int .i64 ca) rfl (by rfl) (by kernel_rfl) (by kernel_rfl) (reach_one (by kernel_rfl)) (by kernel_rfl) (by kernel_rfl) (fun _ _ _ h => h) (Or.inl ⟨by rfl, fun w hS => by obtain ⟨z0, z1, z2, y0, y1, y2, x5, x0, x1, x2⟩ := hS; go_simp⟩) ⟨z0, z1, z2, y0, y1, y2, x5, x0, x1, x2⟩ ?_
  simp only [List.getElem_toArray, List.getElem_cons_zero, List.getElem_cons_succ, Act.put, List.setIfInBounds_toArray, List.set_cons_zero, List.set_cons_succ]
  refine oneU (i := 36) (by kernel_rfl) rfl (by rfl) ?_
  simp only [List.getElem_toArray, List.getElem_cons_zero, List.getElem_cons_succ]
  go_simp
  refine (HCA.out w11 a7 n7 c7' (HN7.out.below HB711.out)).mono ?_
  rintro e w12 ⟨rfl, hb12⟩
  have HBE := hideN (belNext HB1.out (belNext HB2.out (belNext HB27.out (belNext HB711.out hb12))))
  have HB712 := hideN (belNext HB711.out hb12)
  obtain ⟨z0, z1, z2, y0, y1, y2, x5, x0, x1, x2⟩ := HD.out w12 HB712.out
  refine ⟨⟨z0, z1, z2, y0, y1, y2, x5, x0, x1, x2⟩, ?_⟩
  clear hb12
  refine takeU (i := 37) (v := .bool true) rfl (by rfl) (by kernel_rfl) (by kernel_rfl) (reach_one (by kernel_rfl)) (by kernel_rfl) (by kernel_rfl) (fun _ _ _ h => h) (Or.inl ⟨by rfl, fun w hS => by obtain ⟨z0, z1, z2, y0, y1, y2, x5, x0, x1, x2⟩ := hS; go_simp⟩) ⟨z0, z1, z2, y0, y1, y2, x5, x0, x1, x2⟩ ?_
  simp only [List.getElem_toArray, List.getElem_cons_zero, List.getElem_cons_succ, Act.put, List.setIfInBounds_toArray, List.set_cons_zero, List.set_cons_succ]
  refine takeU (i := 38) (v := .bool true) rfl (by rfl) (by kernel_rfl) (by kernel_rfl) (reach_one (by kernel_rfl)) (by kernel_rfl) (by kernel_rfl) (fun _ _ _ h => h) (Or.inl ⟨by rfl, fun w hS => by obtain ⟨z0, z1, z2, y0, y1, y2, x5, x0, x1, x2⟩ := hS; go_simp⟩) ⟨z0, z1, z2, y0, y1, y2, x5, x0, x1, x2⟩ ?_
  simp only [List.getElem_toArray, List.getElem_cons_zero, List.getElem_cons_succ, Act.put, List.setIfInBounds_toArray, List.set_cons_zero, List.set_cons_succ]
  refine oneU (i := 39) (by kernel_rfl) rfl (by rfl) ?_
  simp only [List.getElem_toArray, List.getElem_cons_zero, List.getElem_cons_succ]
  go_simp
  refine doneU (by kernel_rfl) ?_ _
  go_wp2
  go_ret
  exact ⟨rfl, HBE.out⟩

set_option maxRecDepth 100000 in
theorem fnBddNot_lifted (os : Os) (started : os.Started) (H : Type) (enc : TypeId × Value → H) :
    ReturnsInHanded {} Try.checked os 8 .any (Rows.fnBddNotSpec.pre6 enc Try.prog Try.f8 Rows.fnBddNotRow.domain false) (Rows.fnBddNotSpec.post enc Try.prog Try.f8 false true false false) := by
  refine returnsInHanded_of_change (C := Try.checked) own started (by kernel_rfl) Try.func8
    (ChangeSpec.witness6 (enc := enc) (C := Try.checked) false ⟨#[], #[.slice none 0 0], []⟩ 8 (by kernel_rfl) (by kernel_rfl) (by kernel_rfl) (by kernel_rfl)) ?_
  intro W base args ds gs before hval0 hW hcnd _
  have hval : ∀ (j : Nat) t v, Try.f8.params[j]? = some t → args[j]? = some v → Value.okWide Try.prog W .any base t v := hval0
  have hW' := hW
  obtain ⟨p, q, hA0, hV, rfl, hfz, hnd⟩ := hW
  have hA : DataW.TrodAll enc Try.prog W 0 (fun _ => true) true Try.f8.params.toList args.toList ds p := hA0
  rw [Try.params8] at hA hval
  obtain ⟨v0, vs0, d0, ds0, p0, q0, hargs, rfl, rfl, h0, r0⟩ := trodAll_cons hA
  obtain ⟨rfl, rfl, rfl⟩ := trodAll_nil r0
  obtain rfl : args = #[v0] := by cases args; simp_all
  obtain ⟨rfl, rfl⟩ := trodVars_none hV
  have k0 := h0
  have lt0 : ∀ x ∈ p0, x.block < W.heap.size := by obtain ⟨m, hm⟩ := k0; exact DataW.trod_lt m _ _ _ hm
  have hv0 := hval 0 46 v0 rfl rfl
  obtain ⟨ao, len, cap, rfl⟩ := okWide_slice Try.underlying46 hv0
  obtain ⟨fuel, hf⟩ := h0
  obtain ⟨bs, hbs, hml⟩ := isBytes_of_trod (by simpa [Value.cells] using hf)
  clear hA0 hval0
  refine (fnBddNot_walk _ bs W hbs (fun ao' n' cap' b off h1 h2 => by cases h1; subst h2; exact okWide_slice_lt Try.underlying46 hv0) hml).mono fun e W' ⟨he, bel⟩ => ?_
  subst he
  exact ⟨_, rfl, _, _, _, [], _, [], hW', trodAll_mk1 (shut_bool Try.underlying4 _), (trodAll_cons_mk (Below.trod laidOutN (by kernel_rfl) (of_decide_eq_true (by kernel_rfl)) k0 bel lt0) trodAll_mk0), rfl, bel.frame _, fun h => by cases h⟩

theorem fnBddNot_holds : Rows.FnBddNotSaid :=
  OpenClaim.holds_of_wide 8 Try.f8 rfl rfl rfl rfl rfl rfl rfl ⟨rfl, rfl, rfl, rfl, rfl⟩ rfl rfl rfl rfl rfl (by kernel_rfl) Try.func8 (by kernel_rfl)
    (of_decide_eq_true (by kernel_rfl)) (by unfold Func.isWrapper; first | (rw [if_pos (by decide +kernel)]; kernel_rfl) | (rw [if_neg (by decide +kernel)]; exact ⟨rfl, rfl⟩))
    (fun os started H enc _ => fnBddNot_lifted os started H enc)

end Go.Proofs.Ytknpifjkllcdeaa
