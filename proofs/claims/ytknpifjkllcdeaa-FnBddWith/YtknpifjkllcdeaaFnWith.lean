/-
  The law FnBddWith: of every drawn diagram, with a variable told it is what it is with it so, where it is so, and with it not, where it is not; told again nothing changes, the variable does not matter any more, and there are no more nodes. No condition: every argument that can be read.
-/
import Derived.Test.YtknpifjkllcdeaaBdDw
import Derived.Test.YtknpifjkllcdeaaBdPi
import Derived.Test.YtknpifjkllcdeaaBdPe
import Derived.Test.YtknpifjkllcdeaaBdWp
import Derived.Test.YtknpifjkllcdeaaBdRg
import Derived.Test.YtknpifjkllcdeaaBdNi
import Derived.Test.YtknpifjkllcdeaaBdV
import Derived.Test.YtknpifjkllcdeaaOpenB
namespace Go.Proofs.Ytknpifjkllcdeaa
open Go.ChangeShapes Go.WideShapes Go.ChangeAt Go.RowKit Go.Deep Go.Joins
set_option linter.unusedVariables false

attribute [local go_sem] Oper.semAt_some

theorem withA_fits {ok : Bool} {vi : Int} {t : List Bool} (h : ok = true → ∃ V : Nat, vi = (V : Int) ∧ V ≤ 6) : (∀ p ∈ (ansOf ok vi t).2.1, FitN p) ∧ (ansOf ok vi t).2.1.length ≤ 64 := by
  cases ok with
  | false => simp [ansOf]
  | true =>
    obtain ⟨V, rfl, h6⟩ := h rfl
    have hd := draw_fit (t := t) h6
    unfold ansOf
    rw [if_pos rfl, Int.toNat_natCast]
    exact ⟨hd.1, hd.2.1⟩

set_option maxRecDepth 100000 in
set_option maxHeartbeats 16000000 in
theorem fnBddWith_walk (v : Value) (bs : List Int) (w : World) (hv : IsBytes w v bs) (hal : ∀ ao n cap b off, v = .slice ao n cap → ao = some ⟨b, off, none⟩ → b < w.heap.size) (hml : bs.length ≤ maxLen) :
    Calls Try.prog 10 #[v] w fun e w' => e = .returned (.bool true) ∧ Below w.heap.size w w' := by
  unfold maxLen at hml
  have HDR := hideN (fun (h : bs.length ≤ 1048576) => drawBddWith_any v bs w hv h hal)
  obtain ⟨aoc, capc, rfl, _⟩ := hv
  clear hal
  by_cases hbig : bs.length ≤ 1048576
  case neg =>
    have d1 : decide ((1048576 : Int) < (bs.length : Int)) = true := by simp; omega
    go_enter Try.func10, Try.ntmps10
    go_wp2_with fail
    go_ret
    exact ⟨rfl, Below.refl _ _⟩
  have d1 : decide ((1048576 : Int) < (bs.length : Int)) = false := by simp; omega
  have HDW := hideN (HDR.out hbig)
  clear HDR
  go_enter Try.func10, Try.ntmps10
  go_wp2_with fail
  refine HDW.out.mono ?_
  rintro e w0 ⟨vi, root, ao, n, cap, ns, u, so, rfl, hsv, hsr, hn80, hnl, hsm, hrow, hb0, hul, huh⟩
  have hN0 : Nds w0 ao n cap ns := nds_of_own hrow hnl
  have H64 : ∀ q ∈ ns, I64N q := fun q hq => smN64 (hsm q hq)
  have HR := sm64 hsr
  obtain ⟨W1, hW1⟩ : ∃ W1, W1 = w0.alloc (.cells #[.int .i64 vi, .slice ao n cap, .int .i64 root] 25) := ⟨_, rfl⟩
  have HK1 : Hid (BlkD W1 w0.heap.size (.int .i64 vi) (.slice ao n cap) (.int .i64 root)) := by rw [hW1]; exact BlkD.new _ _ _ _
  have HB1 : Hid (Below w.heap.size w W1) := by rw [hW1]; exact belNext hb0 (belOne _ _)
  have hN1 : Nds W1 ao n cap ns := by rw [hW1]; exact hN0.below (belOne _ _)
  have HIS := hideN (fun V (hV : Below W1.heap.size W1 V) => implBddWith_any vi root u so ao n cap ns V (hN1.below hV) H64 HR)
  have HSS := hideN (fun V (hV : Below W1.heap.size W1 V) => specBddWith_any vi root u so ao n cap ns V (hN1.below hV) H64 HR (by omega))
  have HSO := hideN (fun V (hV : Below W1.heap.size W1 V) => specBddOk_any vi root ao n cap ns V (hN1.below hV) H64 HR (by omega))
  have HIW := hideN (fun V (hV : Below W1.heap.size W1 V) => implBddWith_any vi root u (!so) ao n cap ns V (hN1.below hV) H64 HR)
  have HIT := hideN (fun V (hV : Below W1.heap.size W1 V) => implBddTable_any vi root ao n cap ns V (hN1.below hV) H64 HR)
  have HFI := hideN (withA_fits (ok := bddB vi ns root && varB vi u) (vi := vi) (t := withT vi ns root u so) (fun h => by
    rw [Bool.and_eq_true] at h
    obtain ⟨V, rfl, h6, -⟩ := bdd_split h.1
    exact ⟨V, rfl, h6⟩))
  obtain ⟨A, hA⟩ : ∃ A, ansOf (bddB vi ns root && varB vi u) vi (withT vi ns root u so) = A := ⟨_, rfl⟩
  rw [hA] at HIS HSS HFI
  obtain ⟨fv, l, fr⟩ := A
  have HA := hideN hA
  have HW1 := hideN hW1
  have HNL := hideN hnl
  have hvl := hsv.1
  have hvh := hsv.2
  have c0 := HK1.out.c0
  have c1 := HK1.out.c1
  have c2 := HK1.out.c2
  have c3 := HK1.out.lt
  clear hN0 hN1 H64 HR hsm hrow hW1 hb0 hsv hsr HDW hA
  go_wp2_with fail
  try rw [← HW1.out]
  refine (HIS.out W1 (Below.refl _ _)).mono ?_
  rintro e w2 ⟨a2, m, c2', rfl, hm2, hr2, hb2⟩
  have hm64 : m ≤ 64 := by have := HFI.out.2; simp only at *; omega
  have HM2 := hideN hm2
  obtain ⟨V2, hV2⟩ : ∃ V2, V2 = w2.alloc (.cells #[.int .i64 fv, .slice a2 m c2', .int .i64 fr] 25) := ⟨_, rfl⟩
  have hb22 : Below w2.heap.size w2 V2 := by rw [hV2]; exact belOne _ _
  have HX2 : Hid (BlkD V2 w2.heap.size (.int .i64 fv) (.slice a2 m c2') (.int .i64 fr)) := by rw [hV2]; exact BlkD.new _ _ _ _
  have HRX := hideN (row_below hr2 hb22)
  have HB2 := hideN (belNext hb2 hb22)
  have HK2 := hideN ((HK1.out.below hb2).below hb22)
  have HV2 := hideN hV2
  have k0 := (HK1.out.below hb2).c0
  have k1 := (HK1.out.below hb2).c1
  have k2 := (HK1.out.below hb2).c2
  have k3 := (HK1.out.below hb2).lt
  clear hr2 hb2 hV2 hb22 c0 c1 c2 c3 hm2
  go_wp2_with fail
  try rw [← HV2.out]
  clear k0 k1 k2 k3
  obtain ⟨B3, hB3⟩ : ∃ B3, w0.heap.size = B3 := ⟨_, rfl⟩
  obtain ⟨B4, hB4⟩ : ∃ B4, w2.heap.size = B4 := ⟨_, rfl⟩
  rw [hB3] at HK2 ⊢
  rw [hB4] at HX2 ⊢
  have HC : Hid (∀ V', Below V2.heap.size V2 V' → V'.cell? ⟨B3, 0, none⟩ = some (.int .i64 vi) ∧ V'.cell? ⟨B3, 1, none⟩ = some (.slice ao n cap) ∧ V'.cell? ⟨B3, 2, none⟩ = some (.int .i64 root) ∧ V'.cell? ⟨B4, 0, none⟩ = some (.int .i64 fv) ∧ V'.cell? ⟨B4, 1, none⟩ = some (.slice a2 m c2') ∧ V'.cell? ⟨B4, 2, none⟩ = some (.int .i64 fr)) := fun V' hV => ⟨(HK2.out.below hV).c0, (HK2.out.below hV).c1, (HK2.out.below hV).c2, (HX2.out.below hV).c0, (HX2.out.below hV).c1, (HX2.out.below hV).c2⟩
  have HNX := hideN (fun V' (hV : Below V2.heap.size V2 V') => nds_of_own (row_below HRX.out hV) HM2.out)
  have HRG := hideN (fun V' (hV : Below V2.heap.size V2 V') a4 m4 c4 (h4 : Nds V' a4 m4 c4 l) (hm4 : m4 ≤ 100) => rgBdd_any fv fr fr a2 a4 m m4 c2' c4 l l V' (HNX.out V' hV) h4 HFI.out.1 HFI.out.1 (by omega) hm4)
  have HRH := hideN (fun V' (hV : Below V2.heap.size V2 V') a4 m4 c4 (h4 : Nds V' a4 m4 c4 l) (hm4 : m4 ≤ 100) => rgBdd_any fv fr fr a4 a2 m4 m c4 c2' l l V' h4 (HNX.out V' hV) HFI.out.1 HFI.out.1 hm4 (by omega))
  have hdec : (decide (fr = fr) && decide (l = l)) = true := by simp
  rw [hdec] at HRG HRH
  clear hdec
  obtain ⟨z0, z1, z2, y0, y1, y2⟩ := HC.out V2.drew (below_drewN (Below.refl _ _) 1)
  refine region_U (fin := 21) (S := fun V' => V'.cell? ⟨B3, 0, none⟩ = some (.int .i64 vi) ∧ V'.cell? ⟨B3, 1, none⟩ = some (.slice ao n cap) ∧ V'.cell? ⟨B3, 2, none⟩ = some (.int .i64 root) ∧ V'.cell? ⟨B4, 0, none⟩ = some (.int .i64 fv) ∧ V'.cell? ⟨B4, 1, none⟩ = some (.slice a2 m c2') ∧ V'.cell? ⟨B4, 2, none⟩ = some (.int .i64 fr)) (by kernel_rfl) ⟨z0, z1, z2, y0, y1, y2⟩ (fun hHeld => ?_)
  clear hHeld
  refine takeU (i := 0) (v := .agg #[.int .i64 fv, .slice a2 m c2', .int .i64 fr]) rfl (by rfl) (by kernel_rfl) (by kernel_rfl) (by kernel_rfl) (by kernel_rfl) (by kernel_rfl) (fun _ _ _ h => h) (Or.inl ⟨by rfl, fun w hS => by obtain ⟨z0, z1, z2, y0, y1, y2⟩ := hS; go_simp⟩) ⟨z0, z1, z2, y0, y1, y2⟩ ?_
  simp only [List.getElem_toArray, List.getElem_cons_zero, Act.put, List.setIfInBounds_toArray, List.set_cons_zero, List.set_cons_succ]
  refine takeU (i := 1) (v := .agg #[.int .i64 vi, .slice ao n cap, .int .i64 root]) rfl (by rfl) (by kernel_rfl) (by kernel_rfl) (by kernel_rfl) (by kernel_rfl) (by kernel_rfl) (fun _ _ _ h => h) (Or.inl ⟨by rfl, fun w hS => by obtain ⟨z0, z1, z2, y0, y1, y2⟩ := hS; go_simp⟩) ⟨z0, z1, z2, y0, y1, y2⟩ ?_
  simp only [List.getElem_toArray, List.getElem_cons_zero, List.getElem_cons_succ, Act.put, List.setIfInBounds_toArray, List.set_cons_zero, List.set_cons_succ]
  refine takeU (i := 2) (v := .int .i64 u) rfl (by rfl) (by kernel_rfl) (by kernel_rfl) (by kernel_rfl) (by kernel_rfl) (by kernel_rfl) (fun _ _ _ h => h) (Or.inl ⟨by rfl, fun w hS => by obtain ⟨z0, z1, z2, y0, y1, y2⟩ := hS; go_simp⟩) ⟨z0, z1, z2, y0, y1, y2⟩ ?_
  simp only [List.getElem_toArray, List.getElem_cons_zero, List.getElem_cons_succ, Act.put, List.setIfInBounds_toArray, List.set_cons_zero, List.set_cons_succ]
  refine takeU (i := 3) (v := .bool so) rfl (by rfl) (by kernel_rfl) (by kernel_rfl) (by kernel_rfl) (by kernel_rfl) (by kernel_rfl) (fun _ _ _ h => h) (Or.inl ⟨by rfl, fun w hS => by obtain ⟨z0, z1, z2, y0, y1, y2⟩ := hS; go_simp⟩) ⟨z0, z1, z2, y0, y1, y2⟩ ?_
  simp only [List.getElem_toArray, List.getElem_cons_zero, List.getElem_cons_succ, Act.put, List.setIfInBounds_toArray, List.set_cons_zero, List.set_cons_succ]
  refine oneU (i := 4) (by kernel_rfl) rfl (by rfl) ?_
  simp only [List.getElem_toArray, List.getElem_cons_zero, List.getElem_cons_succ]
  go_simp
  have hbd := below_drewN (Below.refl V2.heap.size V2) 1
  refine (HSS.out V2.drew (belNext HB2.out hbd)).mono ?_
  rintro e w3 ⟨a3, m3, c3', rfl, hm3, hr3, hb3⟩
  have HB23 := hideN (belNext hbd hb3)
  have hm34 : m3 ≤ 64 := by have := HFI.out.2; simp only at *; omega
  have HN3 := hideN (nds_of_own hr3 hm3)
  obtain ⟨z0, z1, z2, y0, y1, y2⟩ := HC.out w3 HB23.out
  refine ⟨⟨z0, z1, z2, y0, y1, y2⟩, ?_⟩
  clear hbd hb3 hr3 hm3
  refine oneU (i := 5) (by kernel_rfl) rfl (by rfl) ?_
  simp only [List.getElem_toArray, List.getElem_cons_zero, List.getElem_cons_succ]
  go_simp
  refine (HRG.out w3 HB23.out a3 m3 c3' HN3.out (by omega)).mono ?_
  rintro e w4 ⟨rfl, hb4⟩
  have HB24 := hideN (belNext HB23.out hb4)
  obtain ⟨z0, z1, z2, y0, y1, y2⟩ := HC.out w4 HB24.out
  refine ⟨⟨z0, z1, z2, y0, y1, y2⟩, ?_⟩
  clear hb4 HN3
  refine takeU (i := 6) (v := .bool false) rfl (by rfl) (by kernel_rfl) (by kernel_rfl) (by kernel_rfl) (by kernel_rfl) (by kernel_rfl) (fun _ _ _ h => h) (Or.inl ⟨by rfl, fun w hS => by obtain ⟨z0, z1, z2, y0, y1, y2⟩ := hS; go_simp⟩) ⟨z0, z1, z2, y0, y1, y2⟩ ?_
  simp only [List.getElem_toArray, List.getElem_cons_zero, List.getElem_cons_succ, Act.put, List.setIfInBounds_toArray, List.set_cons_zero, List.set_cons_succ]
  refine takeU (i := 7) (v := .bool false) rfl (by rfl) (by kernel_rfl) (by kernel_rfl) (by kernel_rfl) (by kernel_rfl) (by kernel_rfl) (fun _ _ _ h => h) (Or.inl ⟨by rfl, fun w hS => by obtain ⟨z0, z1, z2, y0, y1, y2⟩ := hS; go_simp⟩) ⟨z0, z1, z2, y0, y1, y2⟩ ?_
  simp only [List.getElem_toArray, List.getElem_cons_zero, List.getElem_cons_succ, Act.put, List.setIfInBounds_toArray, List.set_cons_zero, List.set_cons_succ]
  refine takeU (i := 8) (v := .agg #[.int .i64 vi, .slice ao n cap, .int .i64 root]) rfl (by rfl) (by kernel_rfl) (by kernel_rfl) (by kernel_rfl) (by kernel_rfl) (by kernel_rfl) (fun _ _ _ h => h) (Or.inl ⟨by rfl, fun w hS => by obtain ⟨z0, z1, z2, y0, y1, y2⟩ := hS; go_simp⟩) ⟨z0, z1, z2, y0, y1, y2⟩ ?_
  simp only [List.getElem_toArray, List.getElem_cons_zero, List.getElem_cons_succ, Act.put, List.setIfInBounds_toArray, List.set_cons_zero, List.set_cons_succ]
  refine oneU (i := 9) (by kernel_rfl) rfl (by rfl) ?_
  simp only [List.getElem_toArray, List.getElem_cons_zero, List.getElem_cons_succ]
  go_simp
  refine (HSO.out w4 (belNext HB2.out HB24.out)).mono ?_
  rintro e w5 ⟨rfl, hb5⟩
  have HB25 := hideN (belNext HB24.out hb5)
  obtain ⟨z0, z1, z2, y0, y1, y2⟩ := HC.out w5 HB25.out
  refine ⟨⟨z0, z1, z2, y0, y1, y2⟩, ?_⟩
  clear hb5
  cases hbd : bddB vi ns root with
  | false =>
    refine takeU (i := 10) (v := .bool true) rfl (by rfl) (by kernel_rfl) (by kernel_rfl) (by kernel_rfl) (by kernel_rfl) (by kernel_rfl) (fun _ _ _ h => h) (Or.inl ⟨by rfl, fun w hS => by obtain ⟨z0, z1, z2, y0, y1, y2⟩ := hS; go_simp⟩) ⟨z0, z1, z2, y0, y1, y2⟩ ?_
    simp only [List.getElem_toArray, List.getElem_cons_zero, List.getElem_cons_succ, Act.put, List.setIfInBounds_toArray, List.set_cons_zero, List.set_cons_succ]
    refine takeU (i := 11) (v := .bool true) rfl (by rfl) (by kernel_rfl) (by kernel_rfl) (by kernel_rfl) (by kernel_rfl) (by kernel_rfl) (fun _ _ _ h => h) (Or.inl ⟨by rfl, fun w hS => by obtain ⟨z0, z1, z2, y0, y1, y2⟩ := hS; go_simp⟩) ⟨z0, z1, z2, y0, y1, y2⟩ ?_
    simp only [List.getElem_toArray, List.getElem_cons_zero, List.getElem_cons_succ, Act.put, List.setIfInBounds_toArray, List.set_cons_zero, List.set_cons_succ]
    refine takeU (i := 12) (v := .bool true) rfl (by rfl) (by kernel_rfl) (by kernel_rfl) (by kernel_rfl) (by kernel_rfl) (by kernel_rfl) (fun _ _ _ h => h) (Or.inl ⟨by rfl, fun w hS => by obtain ⟨z0, z1, z2, y0, y1, y2⟩ := hS; go_simp⟩) ⟨z0, z1, z2, y0, y1, y2⟩ ?_
    simp only [List.getElem_toArray, List.getElem_cons_zero, List.getElem_cons_succ, Act.put, List.setIfInBounds_toArray, List.set_cons_zero, List.set_cons_succ]
    refine takeU (i := 13) (v := undef) rfl (by rfl) (by kernel_rfl) (by kernel_rfl) (by kernel_rfl) (by kernel_rfl) (by kernel_rfl) (fun _ _ _ h => h) (Or.inr ⟨by rfl, rfl⟩) ⟨z0, z1, z2, y0, y1, y2⟩ ?_
    simp only [List.getElem_toArray, List.getElem_cons_zero, List.getElem_cons_succ, Act.put, List.setIfInBounds_toArray, List.set_cons_zero, List.set_cons_succ]
    refine takeU (i := 14) (v := undef) rfl (by rfl) (by kernel_rfl) (by kernel_rfl) (by kernel_rfl) (by kernel_rfl) (by kernel_rfl) (fun _ _ _ h => h) (Or.inr ⟨by rfl, rfl⟩) ⟨z0, z1, z2, y0, y1, y2⟩ ?_
    simp only [List.getElem_toArray, List.getElem_cons_zero, List.getElem_cons_succ, Act.put, List.setIfInBounds_toArray, List.set_cons_zero, List.set_cons_succ]
    refine takeU (i := 15) (v := .bool true) rfl (by rfl) (by kernel_rfl) (by kernel_rfl) (by kernel_rfl) (by kernel_rfl) (by kernel_rfl) (fun _ _ _ h => h) (Or.inl ⟨by rfl, fun w hS => by obtain ⟨z0, z1, z2, y0, y1, y2⟩ := hS; go_simp⟩) ⟨z0, z1, z2, y0, y1, y2⟩ ?_
    simp only [List.getElem_toArray, List.getElem_cons_zero, List.getElem_cons_succ, Act.put, List.setIfInBounds_toArray, List.set_cons_zero, List.set_cons_succ]
    refine takeU (i := 16) (v := .bool true) rfl (by rfl) (by kernel_rfl) (by kernel_rfl) (by kernel_rfl) (by kernel_rfl) (by kernel_rfl) (fun _ _ _ h => h) (Or.inl ⟨by rfl, fun w hS => by obtain ⟨z0, z1, z2, y0, y1, y2⟩ := hS; go_simp⟩) ⟨z0, z1, z2, y0, y1, y2⟩ ?_
    simp only [List.getElem_toArray, List.getElem_cons_zero, List.getElem_cons_succ, Act.put, List.setIfInBounds_toArray, List.set_cons_zero, List.set_cons_succ]
    refine takeU (i := 17) (v := undef) rfl (by rfl) (by kernel_rfl) (by kernel_rfl) (by kernel_rfl) (by kernel_rfl) (by kernel_rfl) (fun _ _ _ h => h) (Or.inr ⟨by rfl, rfl⟩) ⟨z0, z1, z2, y0, y1, y2⟩ ?_
    simp only [List.getElem_toArray, List.getElem_cons_zero, List.getElem_cons_succ, Act.put, List.setIfInBounds_toArray, List.set_cons_zero, List.set_cons_succ]
    refine takeU (i := 18) (v := undef) rfl (by rfl) (by kernel_rfl) (by kernel_rfl) (by kernel_rfl) (by kernel_rfl) (by kernel_rfl) (fun _ _ _ h => h) (Or.inr ⟨by rfl, rfl⟩) ⟨z0, z1, z2, y0, y1, y2⟩ ?_
    simp only [List.getElem_toArray, List.getElem_cons_zero, List.getElem_cons_succ, Act.put, List.setIfInBounds_toArray, List.set_cons_zero, List.set_cons_succ]
    refine takeU (i := 19) (v := undef) rfl (by rfl) (by kernel_rfl) (by kernel_rfl) (by kernel_rfl) (by kernel_rfl) (by kernel_rfl) (fun _ _ _ h => h) (Or.inr ⟨by rfl, rfl⟩) ⟨z0, z1, z2, y0, y1, y2⟩ ?_
    simp only [List.getElem_toArray, List.getElem_cons_zero, List.getElem_cons_succ, Act.put, List.setIfInBounds_toArray, List.set_cons_zero, List.set_cons_succ]
    refine takeU (i := 20) (v := undef) rfl (by rfl) (by kernel_rfl) (by kernel_rfl) (by kernel_rfl) (by kernel_rfl) (by kernel_rfl) (fun _ _ _ h => h) (Or.inr ⟨by rfl, rfl⟩) ⟨z0, z1, z2, y0, y1, y2⟩ ?_
    simp only [List.getElem_toArray, List.getElem_cons_zero, List.getElem_cons_succ, Act.put, List.setIfInBounds_toArray, List.set_cons_zero, List.set_cons_succ]
    refine oneU (i := 21) (by kernel_rfl) rfl (by rfl) ?_
    simp only [List.getElem_toArray, List.getElem_cons_zero, List.getElem_cons_succ]
    go_simp
    refine doneU (by kernel_rfl) ?_ _
    clear z0 z1 z2 y0 y1 y2
    go_wp2_with fail
    obtain ⟨z0, z1, z2, y0, y1, y2⟩ := HC.out w5.drew (belNext HB25.out (below_drewN (Below.refl _ _) 1))
    refine region_U (fin := 6) (S := fun V' => V'.cell? ⟨B3, 0, none⟩ = some (.int .i64 vi) ∧ V'.cell? ⟨B3, 1, none⟩ = some (.slice ao n cap) ∧ V'.cell? ⟨B3, 2, none⟩ = some (.int .i64 root) ∧ V'.cell? ⟨B4, 0, none⟩ = some (.int .i64 fv) ∧ V'.cell? ⟨B4, 1, none⟩ = some (.slice a2 m c2') ∧ V'.cell? ⟨B4, 2, none⟩ = some (.int .i64 fr)) (by kernel_rfl) ⟨z0, z1, z2, y0, y1, y2⟩ (fun hHeld => ?_)
    clear hHeld
    refine takeU (i := 0) (v := .agg #[.int .i64 fv, .slice a2 m c2', .int .i64 fr]) rfl (by rfl) (by kernel_rfl) (by kernel_rfl) (reach_one (by kernel_rfl)) (by kernel_rfl) (by kernel_rfl) (fun _ _ _ h => h) (Or.inl ⟨by rfl, fun w hS => by obtain ⟨z0, z1, z2, y0, y1, y2⟩ := hS; go_simp⟩) ⟨z0, z1, z2, y0, y1, y2⟩ ?_
    simp only [List.getElem_toArray, List.getElem_cons_zero, Act.put, List.setIfInBounds_toArray, List.set_cons_zero, List.set_cons_succ]
    refine takeU (i := 1) (v := .agg #[.int .i64 vi, .slice ao n cap, .int .i64 root]) rfl (by rfl) (by kernel_rfl) (by kernel_rfl) (reach_one (by kernel_rfl)) (by kernel_rfl) (by kernel_rfl) (fun _ _ _ h => h) (Or.inl ⟨by rfl, fun w hS => by obtain ⟨z0, z1, z2, y0, y1, y2⟩ := hS; go_simp⟩) ⟨z0, z1, z2, y0, y1, y2⟩ ?_
    simp only [List.getElem_toArray, List.getElem_cons_zero, List.getElem_cons_succ, Act.put, List.setIfInBounds_toArray, List.set_cons_zero, List.set_cons_succ]
    refine takeU (i := 2) (v := .int .i64 u) rfl (by rfl) (by kernel_rfl) (by kernel_rfl) (reach_one (by kernel_rfl)) (by kernel_rfl) (by kernel_rfl) (fun _ _ _ h => h) (Or.inl ⟨by rfl, fun w hS => by obtain ⟨z0, z1, z2, y0, y1, y2⟩ := hS; go_simp⟩) ⟨z0, z1, z2, y0, y1, y2⟩ ?_
    simp only [List.getElem_toArray, List.getElem_cons_zero, List.getElem_cons_succ, Act.put, List.setIfInBounds_toArray, List.set_cons_zero, List.set_cons_succ]
    refine takeU (i := 3) (v := .bool so) rfl (by rfl) (by kernel_rfl) (by kernel_rfl) (reach_one (by kernel_rfl)) (by kernel_rfl) (by kernel_rfl) (fun _ _ _ h => h) (Or.inl ⟨by rfl, fun w hS => by obtain ⟨z0, z1, z2, y0, y1, y2⟩ := hS; go_simp⟩) ⟨z0, z1, z2, y0, y1, y2⟩ ?_
    simp only [List.getElem_toArray, List.getElem_cons_zero, List.getElem_cons_succ, Act.put, List.setIfInBounds_toArray, List.set_cons_zero, List.set_cons_succ]
    refine oneU (i := 4) (by kernel_rfl) rfl (by rfl) ?_
    simp only [List.getElem_toArray, List.getElem_cons_zero, List.getElem_cons_succ]
    go_simp
    have hbe := belNext HB25.out (below_drewN (Below.refl w5.heap.size w5) 1)
    refine (HSS.out w5.drew (belNext HB2.out hbe)).mono ?_
    rintro e w6 ⟨a6, m6, c6', rfl, hm6, hr6, hb6⟩
    have HB26 := hideN (belNext hbe hb6)
    have hm64' : m6 ≤ 64 := by have := HFI.out.2; simp only at *; omega
    have HN6 := hideN (nds_of_own hr6 hm6)
    obtain ⟨z0, z1, z2, y0, y1, y2⟩ := HC.out w6 HB26.out
    refine ⟨⟨z0, z1, z2, y0, y1, y2⟩, ?_⟩
    clear hbe hb6 hr6 hm6
    refine oneU (i := 5) (by kernel_rfl) rfl (by rfl) ?_
    simp only [List.getElem_toArray, List.getElem_cons_zero, List.getElem_cons_succ]
    go_simp
    refine (HRG.out w6 HB26.out a6 m6 c6' HN6.out (by omega)).mono ?_
    rintro e w7 ⟨rfl, hb7⟩
    have HBE := hideN (belNext HB1.out (belNext HB2.out (belNext HB26.out hb7)))
    obtain ⟨z0, z1, z2, y0, y1, y2⟩ := HC.out w7 (belNext HB26.out hb7)
    refine ⟨⟨z0, z1, z2, y0, y1, y2⟩, ?_⟩
    clear hb7
    refine oneU (i := 6) (by kernel_rfl) rfl (by rfl) ?_
    simp only [List.getElem_toArray, List.getElem_cons_zero, List.getElem_cons_succ]
    go_simp
    refine doneU (by kernel_rfl) ?_ _
    go_wp2
    go_ret
    exact ⟨rfl, HBE.out⟩
  | true =>
  refine takeU (i := 10) (v := .bool false) rfl (by rfl) (by kernel_rfl) (by kernel_rfl) (by kernel_rfl) (by kernel_rfl) (by kernel_rfl) (fun _ _ _ h => h) (Or.inl ⟨by rfl, fun w hS => by obtain ⟨z0, z1, z2, y0, y1, y2⟩ := hS; go_simp⟩) ⟨z0, z1, z2, y0, y1, y2⟩ ?_
  simp only [List.getElem_toArray, List.getElem_cons_zero, List.getElem_cons_succ, Act.put, List.setIfInBounds_toArray, List.set_cons_zero, List.set_cons_succ]
  refine takeU (i := 11) (v := .bool false) rfl (by rfl) (by kernel_rfl) (by kernel_rfl) (by kernel_rfl) (by kernel_rfl) (by kernel_rfl) (fun _ _ _ h => h) (Or.inl ⟨by rfl, fun w hS => by obtain ⟨z0, z1, z2, y0, y1, y2⟩ := hS; go_simp⟩) ⟨z0, z1, z2, y0, y1, y2⟩ ?_
  simp only [List.getElem_toArray, List.getElem_cons_zero, List.getElem_cons_succ, Act.put, List.setIfInBounds_toArray, List.set_cons_zero, List.set_cons_succ]
  refine takeU (i := 12) (v := .bool false) rfl (by rfl) (by kernel_rfl) (by kernel_rfl) (by kernel_rfl) (by kernel_rfl) (by kernel_rfl) (fun _ _ _ h => h) (Or.inl ⟨by rfl, fun w hS => by obtain ⟨z0, z1, z2, y0, y1, y2⟩ := hS; go_simp⟩) ⟨z0, z1, z2, y0, y1, y2⟩ ?_
  simp only [List.getElem_toArray, List.getElem_cons_zero, List.getElem_cons_succ, Act.put, List.setIfInBounds_toArray, List.set_cons_zero, List.set_cons_succ]
  refine takeU (i := 13) (v := .int .i64 u) rfl (by rfl) (by kernel_rfl) (by kernel_rfl) (by kernel_rfl) (by kernel_rfl) (by kernel_rfl) (fun _ _ _ h => h) (Or.inl ⟨by rfl, fun w hS => by obtain ⟨z0, z1, z2, y0, y1, y2⟩ := hS; go_simp⟩) ⟨z0, z1, z2, y0, y1, y2⟩ ?_
  simp only [List.getElem_toArray, List.getElem_cons_zero, List.getElem_cons_succ, Act.put, List.setIfInBounds_toArray, List.set_cons_zero, List.set_cons_succ]
  by_cases hu0 : u < 0
  · skip
    refine takeU (i := 14) (v := .bool true) rfl (by rfl) (by kernel_rfl) (by kernel_rfl) (by kernel_rfl) (by kernel_rfl) (by kernel_rfl) (fun _ _ _ h => h) (Or.inl ⟨by rfl, fun w hS => by obtain ⟨z0, z1, z2, y0, y1, y2⟩ := hS; go_simp⟩) ⟨z0, z1, z2, y0, y1, y2⟩ ?_
    simp only [List.getElem_toArray, List.getElem_cons_zero, List.getElem_cons_succ, Act.put, List.setIfInBounds_toArray, List.set_cons_zero, List.set_cons_succ]
    refine takeU (i := 15) (v := .bool true) rfl (by rfl) (by kernel_rfl) (by kernel_rfl) (by kernel_rfl) (by kernel_rfl) (by kernel_rfl) (fun _ _ _ h => h) (Or.inl ⟨by rfl, fun w hS => by obtain ⟨z0, z1, z2, y0, y1, y2⟩ := hS; go_simp⟩) ⟨z0, z1, z2, y0, y1, y2⟩ ?_
    simp only [List.getElem_toArray, List.getElem_cons_zero, List.getElem_cons_succ, Act.put, List.setIfInBounds_toArray, List.set_cons_zero, List.set_cons_succ]
    refine takeU (i := 16) (v := .bool true) rfl (by rfl) (by kernel_rfl) (by kernel_rfl) (by kernel_rfl) (by kernel_rfl) (by kernel_rfl) (fun _ _ _ h => h) (Or.inl ⟨by rfl, fun w hS => by obtain ⟨z0, z1, z2, y0, y1, y2⟩ := hS; go_simp⟩) ⟨z0, z1, z2, y0, y1, y2⟩ ?_
    simp only [List.getElem_toArray, List.getElem_cons_zero, List.getElem_cons_succ, Act.put, List.setIfInBounds_toArray, List.set_cons_zero, List.set_cons_succ]
    refine takeU (i := 17) (v := undef) rfl (by rfl) (by kernel_rfl) (by kernel_rfl) (by kernel_rfl) (by kernel_rfl) (by kernel_rfl) (fun _ _ _ h => h) (Or.inr ⟨by rfl, rfl⟩) ⟨z0, z1, z2, y0, y1, y2⟩ ?_
    simp only [List.getElem_toArray, List.getElem_cons_zero, List.getElem_cons_succ, Act.put, List.setIfInBounds_toArray, List.set_cons_zero, List.set_cons_succ]
    refine takeU (i := 18) (v := undef) rfl (by rfl) (by kernel_rfl) (by kernel_rfl) (by kernel_rfl) (by kernel_rfl) (by kernel_rfl) (fun _ _ _ h => h) (Or.inr ⟨by rfl, rfl⟩) ⟨z0, z1, z2, y0, y1, y2⟩ ?_
    simp only [List.getElem_toArray, List.getElem_cons_zero, List.getElem_cons_succ, Act.put, List.setIfInBounds_toArray, List.set_cons_zero, List.set_cons_succ]
    refine takeU (i := 19) (v := undef) rfl (by rfl) (by kernel_rfl) (by kernel_rfl) (by kernel_rfl) (by kernel_rfl) (by kernel_rfl) (fun _ _ _ h => h) (Or.inr ⟨by rfl, rfl⟩) ⟨z0, z1, z2, y0, y1, y2⟩ ?_
    simp only [List.getElem_toArray, List.getElem_cons_zero, List.getElem_cons_succ, Act.put, List.setIfInBounds_toArray, List.set_cons_zero, List.set_cons_succ]
    refine takeU (i := 20) (v := undef) rfl (by rfl) (by kernel_rfl) (by kernel_rfl) (by kernel_rfl) (by kernel_rfl) (by kernel_rfl) (fun _ _ _ h => h) (Or.inr ⟨by rfl, rfl⟩) ⟨z0, z1, z2, y0, y1, y2⟩ ?_
    simp only [List.getElem_toArray, List.getElem_cons_zero, List.getElem_cons_succ, Act.put, List.setIfInBounds_toArray, List.set_cons_zero, List.set_cons_succ]
    refine oneU (i := 21) (by kernel_rfl) rfl (by rfl) ?_
    simp only [List.getElem_toArray, List.getElem_cons_zero, List.getElem_cons_succ]
    go_simp
    refine doneU (by kernel_rfl) ?_ _
    clear z0 z1 z2 y0 y1 y2
    go_wp2_with fail
    obtain ⟨z0, z1, z2, y0, y1, y2⟩ := HC.out w5.drew (belNext HB25.out (below_drewN (Below.refl _ _) 1))
    refine region_U (fin := 6) (S := fun V' => V'.cell? ⟨B3, 0, none⟩ = some (.int .i64 vi) ∧ V'.cell? ⟨B3, 1, none⟩ = some (.slice ao n cap) ∧ V'.cell? ⟨B3, 2, none⟩ = some (.int .i64 root) ∧ V'.cell? ⟨B4, 0, none⟩ = some (.int .i64 fv) ∧ V'.cell? ⟨B4, 1, none⟩ = some (.slice a2 m c2') ∧ V'.cell? ⟨B4, 2, none⟩ = some (.int .i64 fr)) (by kernel_rfl) ⟨z0, z1, z2, y0, y1, y2⟩ (fun hHeld => ?_)
    clear hHeld
    refine takeU (i := 0) (v := .agg #[.int .i64 fv, .slice a2 m c2', .int .i64 fr]) rfl (by rfl) (by kernel_rfl) (by kernel_rfl) (reach_one (by kernel_rfl)) (by kernel_rfl) (by kernel_rfl) (fun _ _ _ h => h) (Or.inl ⟨by rfl, fun w hS => by obtain ⟨z0, z1, z2, y0, y1, y2⟩ := hS; go_simp⟩) ⟨z0, z1, z2, y0, y1, y2⟩ ?_
    simp only [List.getElem_toArray, List.getElem_cons_zero, Act.put, List.setIfInBounds_toArray, List.set_cons_zero, List.set_cons_succ]
    refine takeU (i := 1) (v := .agg #[.int .i64 vi, .slice ao n cap, .int .i64 root]) rfl (by rfl) (by kernel_rfl) (by kernel_rfl) (reach_one (by kernel_rfl)) (by kernel_rfl) (by kernel_rfl) (fun _ _ _ h => h) (Or.inl ⟨by rfl, fun w hS => by obtain ⟨z0, z1, z2, y0, y1, y2⟩ := hS; go_simp⟩) ⟨z0, z1, z2, y0, y1, y2⟩ ?_
    simp only [List.getElem_toArray, List.getElem_cons_zero, List.getElem_cons_succ, Act.put, List.setIfInBounds_toArray, List.set_cons_zero, List.set_cons_succ]
    refine takeU (i := 2) (v := .int .i64 u) rfl (by rfl) (by kernel_rfl) (by kernel_rfl) (reach_one (by kernel_rfl)) (by kernel_rfl) (by kernel_rfl) (fun _ _ _ h => h) (Or.inl ⟨by rfl, fun w hS => by obtain ⟨z0, z1, z2, y0, y1, y2⟩ := hS; go_simp⟩) ⟨z0, z1, z2, y0, y1, y2⟩ ?_
    simp only [List.getElem_toArray, List.getElem_cons_zero, List.getElem_cons_succ, Act.put, List.setIfInBounds_toArray, List.set_cons_zero, List.set_cons_succ]
    refine takeU (i := 3) (v := .bool so) rfl (by rfl) (by kernel_rfl) (by kernel_rfl) (reach_one (by kernel_rfl)) (by kernel_rfl) (by kernel_rfl) (fun _ _ _ h => h) (Or.inl ⟨by rfl, fun w hS => by obtain ⟨z0, z1, z2, y0, y1, y2⟩ := hS; go_simp⟩) ⟨z0, z1, z2, y0, y1, y2⟩ ?_
    simp only [List.getElem_toArray, List.getElem_cons_zero, List.getElem_cons_succ, Act.put, List.setIfInBounds_toArray, List.set_cons_zero, List.set_cons_succ]
    refine oneU (i := 4) (by kernel_rfl) rfl (by rfl) ?_
    simp only [List.getElem_toArray, List.getElem_cons_zero, List.getElem_cons_succ]
    go_simp
    have hbe := belNext HB25.out (below_drewN (Below.refl w5.heap.size w5) 1)
    refine (HSS.out w5.drew (belNext HB2.out hbe)).mono ?_
    rintro e w6 ⟨a6, m6, c6', rfl, hm6, hr6, hb6⟩
    have HB26 := hideN (belNext hbe hb6)
    have hm64' : m6 ≤ 64 := by have := HFI.out.2; simp only at *; omega
    have HN6 := hideN (nds_of_own hr6 hm6)
    obtain ⟨z0, z1, z2, y0, y1, y2⟩ := HC.out w6 HB26.out
    refine ⟨⟨z0, z1, z2, y0, y1, y2⟩, ?_⟩
    clear hbe hb6 hr6 hm6
    refine oneU (i := 5) (by kernel_rfl) rfl (by rfl) ?_
    simp only [List.getElem_toArray, List.getElem_cons_zero, List.getElem_cons_succ]
    go_simp
    refine (HRG.out w6 HB26.out a6 m6 c6' HN6.out (by omega)).mono ?_
    rintro e w7 ⟨rfl, hb7⟩
    have HBE := hideN (belNext HB1.out (belNext HB2.out (belNext HB26.out hb7)))
    obtain ⟨z0, z1, z2, y0, y1, y2⟩ := HC.out w7 (belNext HB26.out hb7)
    refine ⟨⟨z0, z1, z2, y0, y1, y2⟩, ?_⟩
    clear hb7
    refine oneU (i := 6) (by kernel_rfl) rfl (by rfl) ?_
    simp only [List.getElem_toArray, List.getElem_cons_zero, List.getElem_cons_succ]
    go_simp
    refine doneU (by kernel_rfl) ?_ _
    go_wp2
    go_ret
    exact ⟨rfl, HBE.out⟩
  refine takeU (i := 14) (v := .bool false) rfl (by rfl) (by kernel_rfl) (by kernel_rfl) (by kernel_rfl) (by kernel_rfl) (by kernel_rfl) (fun _ _ _ h => h) (Or.inl ⟨by rfl, fun w hS => by obtain ⟨z0, z1, z2, y0, y1, y2⟩ := hS; go_simp⟩) ⟨z0, z1, z2, y0, y1, y2⟩ ?_
  simp only [List.getElem_toArray, List.getElem_cons_zero, List.getElem_cons_succ, Act.put, List.setIfInBounds_toArray, List.set_cons_zero, List.set_cons_succ]
  refine takeU (i := 15) (v := .bool false) rfl (by rfl) (by kernel_rfl) (by kernel_rfl) (by kernel_rfl) (by kernel_rfl) (by kernel_rfl) (fun _ _ _ h => h) (Or.inl ⟨by rfl, fun w hS => by obtain ⟨z0, z1, z2, y0, y1, y2⟩ := hS; go_simp⟩) ⟨z0, z1, z2, y0, y1, y2⟩ ?_
  simp only [List.getElem_toArray, List.getElem_cons_zero, List.getElem_cons_succ, Act.put, List.setIfInBounds_toArray, List.set_cons_zero, List.set_cons_succ]
  refine takeU (i := 16) (v := .bool false) rfl (by rfl) (by kernel_rfl) (by kernel_rfl) (by kernel_rfl) (by kernel_rfl) (by kernel_rfl) (fun _ _ _ h => h) (Or.inl ⟨by rfl, fun w hS => by obtain ⟨z0, z1, z2, y0, y1, y2⟩ := hS; go_simp⟩) ⟨z0, z1, z2, y0, y1, y2⟩ ?_
  simp only [List.getElem_toArray, List.getElem_cons_zero, List.getElem_cons_succ, Act.put, List.setIfInBounds_toArray, List.set_cons_zero, List.set_cons_succ]
  refine takeU (i := 17) (v := .int .i64 u) rfl (by rfl) (by kernel_rfl) (by kernel_rfl) (by kernel_rfl) (by kernel_rfl) (by kernel_rfl) (fun _ _ _ h => h) (Or.inl ⟨by rfl, fun w hS => by obtain ⟨z0, z1, z2, y0, y1, y2⟩ := hS; go_simp⟩) ⟨z0, z1, z2, y0, y1, y2⟩ ?_
  simp only [List.getElem_toArray, List.getElem_cons_zero, List.getElem_cons_succ, Act.put, List.setIfInBounds_toArray, List.set_cons_zero, List.set_cons_succ]
  refine takeU (i := 18) (v := .pointer (some ⟨B3, 0, none⟩)) rfl (by rfl) (by kernel_rfl) (by kernel_rfl) (by kernel_rfl) (by kernel_rfl) (by kernel_rfl) (fun _ _ _ h => h) (Or.inl ⟨by rfl, fun w hS => by obtain ⟨z0, z1, z2, y0, y1, y2⟩ := hS; go_simp⟩) ⟨z0, z1, z2, y0, y1, y2⟩ ?_
  simp only [List.getElem_toArray, List.getElem_cons_zero, List.getElem_cons_succ, Act.put, List.setIfInBounds_toArray, List.set_cons_zero, List.set_cons_succ]
  refine takeU (i := 19) (v := .int .i64 vi) rfl (by rfl) (by kernel_rfl) (by kernel_rfl) (by kernel_rfl) (by kernel_rfl) (by kernel_rfl) (fun _ _ _ h => h) (Or.inl ⟨by rfl, fun w hS => by obtain ⟨z0, z1, z2, y0, y1, y2⟩ := hS; go_simp⟩) ⟨z0, z1, z2, y0, y1, y2⟩ ?_
  simp only [List.getElem_toArray, List.getElem_cons_zero, List.getElem_cons_succ, Act.put, List.setIfInBounds_toArray, List.set_cons_zero, List.set_cons_succ]
  by_cases huV : vi ≤ u
  · skip
    refine takeU (i := 20) (v := .bool true) rfl (by rfl) (by kernel_rfl) (by kernel_rfl) (by kernel_rfl) (by kernel_rfl) (by kernel_rfl) (fun _ _ _ h => h) (Or.inl ⟨by rfl, fun w hS => by obtain ⟨z0, z1, z2, y0, y1, y2⟩ := hS; go_simp⟩) ⟨z0, z1, z2, y0, y1, y2⟩ ?_
    simp only [List.getElem_toArray, List.getElem_cons_zero, List.getElem_cons_succ, Act.put, List.setIfInBounds_toArray, List.set_cons_zero, List.set_cons_succ]
    refine oneU (i := 21) (by kernel_rfl) rfl (by rfl) ?_
    simp only [List.getElem_toArray, List.getElem_cons_zero, List.getElem_cons_succ]
    go_simp
    refine doneU (by kernel_rfl) ?_ _
    clear z0 z1 z2 y0 y1 y2
    go_wp2_with fail
    obtain ⟨z0, z1, z2, y0, y1, y2⟩ := HC.out w5.drew (belNext HB25.out (below_drewN (Below.refl _ _) 1))
    refine region_U (fin := 6) (S := fun V' => V'.cell? ⟨B3, 0, none⟩ = some (.int .i64 vi) ∧ V'.cell? ⟨B3, 1, none⟩ = some (.slice ao n cap) ∧ V'.cell? ⟨B3, 2, none⟩ = some (.int .i64 root) ∧ V'.cell? ⟨B4, 0, none⟩ = some (.int .i64 fv) ∧ V'.cell? ⟨B4, 1, none⟩ = some (.slice a2 m c2') ∧ V'.cell? ⟨B4, 2, none⟩ = some (.int .i64 fr)) (by kernel_rfl) ⟨z0, z1, z2, y0, y1, y2⟩ (fun hHeld => ?_)
    clear hHeld
    refine takeU (i := 0) (v := .agg #[.int .i64 fv, .slice a2 m c2', .int .i64 fr]) rfl (by rfl) (by kernel_rfl) (by kernel_rfl) (reach_one (by kernel_rfl)) (by kernel_rfl) (by kernel_rfl) (fun _ _ _ h => h) (Or.inl ⟨by rfl, fun w hS => by obtain ⟨z0, z1, z2, y0, y1, y2⟩ := hS; go_simp⟩) ⟨z0, z1, z2, y0, y1, y2⟩ ?_
    simp only [List.getElem_toArray, List.getElem_cons_zero, Act.put, List.setIfInBounds_toArray, List.set_cons_zero, List.set_cons_succ]
    refine takeU (i := 1) (v := .agg #[.int .i64 vi, .slice ao n cap, .int .i64 root]) rfl (by rfl) (by kernel_rfl) (by kernel_rfl) (reach_one (by kernel_rfl)) (by kernel_rfl) (by kernel_rfl) (fun _ _ _ h => h) (Or.inl ⟨by rfl, fun w hS => by obtain ⟨z0, z1, z2, y0, y1, y2⟩ := hS; go_simp⟩) ⟨z0, z1, z2, y0, y1, y2⟩ ?_
    simp only [List.getElem_toArray, List.getElem_cons_zero, List.getElem_cons_succ, Act.put, List.setIfInBounds_toArray, List.set_cons_zero, List.set_cons_succ]
    refine takeU (i := 2) (v := .int .i64 u) rfl (by rfl) (by kernel_rfl) (by kernel_rfl) (reach_one (by kernel_rfl)) (by kernel_rfl) (by kernel_rfl) (fun _ _ _ h => h) (Or.inl ⟨by rfl, fun w hS => by obtain ⟨z0, z1, z2, y0, y1, y2⟩ := hS; go_simp⟩) ⟨z0, z1, z2, y0, y1, y2⟩ ?_
    simp only [List.getElem_toArray, List.getElem_cons_zero, List.getElem_cons_succ, Act.put, List.setIfInBounds_toArray, List.set_cons_zero, List.set_cons_succ]
    refine takeU (i := 3) (v := .bool so) rfl (by rfl) (by kernel_rfl) (by kernel_rfl) (reach_one (by kernel_rfl)) (by kernel_rfl) (by kernel_rfl) (fun _ _ _ h => h) (Or.inl ⟨by rfl, fun w hS => by obtain ⟨z0, z1, z2, y0, y1, y2⟩ := hS; go_simp⟩) ⟨z0, z1, z2, y0, y1, y2⟩ ?_
    simp only [List.getElem_toArray, List.getElem_cons_zero, List.getElem_cons_succ, Act.put, List.setIfInBounds_toArray, List.set_cons_zero, List.set_cons_succ]
    refine oneU (i := 4) (by kernel_rfl) rfl (by rfl) ?_
    simp only [List.getElem_toArray, List.getElem_cons_zero, List.getElem_cons_succ]
    go_simp
    have hbe := belNext HB25.out (below_drewN (Below.refl w5.heap.size w5) 1)
    refine (HSS.out w5.drew (belNext HB2.out hbe)).mono ?_
    rintro e w6 ⟨a6, m6, c6', rfl, hm6, hr6, hb6⟩
    have HB26 := hideN (belNext hbe hb6)
    have hm64' : m6 ≤ 64 := by have := HFI.out.2; simp only at *; omega
    have HN6 := hideN (nds_of_own hr6 hm6)
    obtain ⟨z0, z1, z2, y0, y1, y2⟩ := HC.out w6 HB26.out
    refine ⟨⟨z0, z1, z2, y0, y1, y2⟩, ?_⟩
    clear hbe hb6 hr6 hm6
    refine oneU (i := 5) (by kernel_rfl) rfl (by rfl) ?_
    simp only [List.getElem_toArray, List.getElem_cons_zero, List.getElem_cons_succ]
    go_simp
    refine (HRG.out w6 HB26.out a6 m6 c6' HN6.out (by omega)).mono ?_
    rintro e w7 ⟨rfl, hb7⟩
    have HBE := hideN (belNext HB1.out (belNext HB2.out (belNext HB26.out hb7)))
    obtain ⟨z0, z1, z2, y0, y1, y2⟩ := HC.out w7 (belNext HB26.out hb7)
    refine ⟨⟨z0, z1, z2, y0, y1, y2⟩, ?_⟩
    clear hb7
    refine oneU (i := 6) (by kernel_rfl) rfl (by rfl) ?_
    simp only [List.getElem_toArray, List.getElem_cons_zero, List.getElem_cons_succ]
    go_simp
    refine doneU (by kernel_rfl) ?_ _
    go_wp2
    go_ret
    exact ⟨rfl, HBE.out⟩
  refine takeU (i := 20) (v := .bool false) rfl (by rfl) (by kernel_rfl) (by kernel_rfl) (by kernel_rfl) (by kernel_rfl) (by kernel_rfl) (fun _ _ _ h => h) (Or.inl ⟨by rfl, fun w hS => by obtain ⟨z0, z1, z2, y0, y1, y2⟩ := hS; go_simp⟩) ⟨z0, z1, z2, y0, y1, y2⟩ ?_
  simp only [List.getElem_toArray, List.getElem_cons_zero, List.getElem_cons_succ, Act.put, List.setIfInBounds_toArray, List.set_cons_zero, List.set_cons_succ]
  refine oneU (i := 21) (by kernel_rfl) rfl (by rfl) ?_
  simp only [List.getElem_toArray, List.getElem_cons_zero, List.getElem_cons_succ]
  go_simp
  refine doneU (by kernel_rfl) ?_ _
  clear z0 z1 z2 y0 y1 y2
  obtain ⟨V, rfl, h6, -⟩ := bdd_split hbd
  obtain ⟨uu, rfl⟩ : ∃ uu : Nat, u = (uu : Int) := ⟨u.toNat, by omega⟩
  have huV' : uu < V := by omega
  have hvar : varB (V : Int) (uu : Int) = true := by unfold varB; simp; omega
  have HWN : Hid (∀ W, Below W1.heap.size W1 W → Calls Try.prog 50 #[.agg #[.int .i64 (V : Int), .slice ao n cap, .int .i64 root], .int .i64 (uu : Int), .bool (!so)] W (BddPost (V : Int) (drawB V 0 (withT (V : Int) ns root (uu : Int) (!so)) []).1 (drawB V 0 (withT (V : Int) ns root (uu : Int) (!so)) []).2 W)) := fun W hW => by
    have h := HIW.out W hW
    rw [hbd, hvar] at h
    unfold AnsPost ansOf at h
    rw [Bool.and_self, if_pos rfl, Int.toNat_natCast] at h
    exact h
  have hWF := with_facts (so := so) h6 hbd huV'
  have hA2 := HA.out
  rw [hbd, hvar] at hA2
  unfold ansOf at hA2
  rw [Bool.and_self, if_pos rfl, Int.toNat_natCast] at hA2
  simp only [Prod.mk.injEq] at hA2
  obtain ⟨e1, e2, e3⟩ := hA2
  rw [e2, e3] at hWF
  subst e1
  clear HIW HIS HSS HSO HA e2 e3
  generalize drawB V 0 (withT (V : Int) ns root (uu : Int) (!so)) [] = DY at *
  obtain ⟨lY, rY⟩ := DY
  simp only at hWF HWN
  have hfi : ∀ (ls : List Nd) (r : Int), bddB (V : Int) ls r = true → (∀ q ∈ ls, I64N q) ∧ I64 r := fun ls r h => by
    obtain ⟨V', hVV, _, hnn, hok, h0, h1⟩ := bdd_split h
    obtain rfl : V' = V := by omega
    exact ⟨fun q hq => fit64n (nodes_fit h6 hnn hok q hq), by unfold I64; omega⟩
  have hx64 := hfi l fr hWF.okX
  have hy64 := hfi lY rY hWF.okY
  have HAG : Hid (∀ V', Below V2.heap.size V2 V' → Calls Try.prog 50 #[.agg #[.int .i64 (V : Int), .slice a2 m c2', .int .i64 fr], .int .i64 (uu : Int), .bool (!so)] V' (BddPost (V : Int) l fr V')) := fun V' hV => by
    have h := implBddWith_any (V : Int) fr (uu : Int) (!so) a2 m c2' l V' (HNX.out V' hV) hx64.1 hx64.2
    rw [hWF.okX, hvar] at h
    unfold AnsPost ansOf at h
    rw [Bool.and_self, if_pos rfl, Int.toNat_natCast, hWF.again] at h
    exact h
  have HND : Hid (∀ V', Below V2.heap.size V2 V' → Calls Try.prog 29 #[.agg #[.int .i64 (V : Int), .slice a2 m c2', .int .i64 fr]] V' (IntsPost (needsL V l) V')) := fun V' hV => by
    have h := implBddNeeds_any (V : Int) fr a2 m c2' l V' (HNX.out V' hV) hx64.1 hx64.2
    unfold needsZ at h
    rw [hWF.okX, if_pos rfl, Int.toNat_natCast] at h
    exact h
  have hTS : ∀ (ls : List Nd) (r : Int), bddB (V : Int) ls r = true → tabS (V : Int) ls r = tabN V ls r := fun ls r h => by unfold tabS; rw [h, if_pos rfl, Int.toNat_natCast]
  rw [hTS ns root hbd] at HIT
  have HXT := hideN (fun V' (hV : Below V2.heap.size V2 V') => implBddTable_any (V : Int) fr a2 m c2' l V' (HNX.out V' hV) hx64.1 hx64.2)
  rw [hTS l fr hWF.okX] at HXT
  have HYT := hideN (fun V' a1 n1 c1 (h : Nds V' a1 n1 c1 lY) => implBddTable_any (V : Int) rY a1 n1 c1 lY V' h hy64.1 hy64.2)
  rw [hTS lY rY hWF.okY] at HYT
  have HNLE := hideN (needsL_le V l)
  have HHN := hideN hWF.needs
  have hmn : m ≤ n := by have h1 := hWF.less; have h2 : l.length = m := HM2.out; have h3 := HNL.out; omega
  have HRELX := hideN hWF.relX
  have HRELY := hideN hWF.relY
  have hl1 := tabN_length V ns root
  have hl2 := tabN_length V l fr
  have hl3 := tabN_length V lY rY
  clear hWF hfi hx64 hy64 hTS hvar
  generalize tabN V ns root = T at *
  generalize tabN V l fr = P at *
  generalize tabN V lY rY = Q at *
  generalize needsL V l = K at *
  have hMp : 2 ^ V ≤ 64 := by show _ ≤ 2 ^ 6; exact Nat.pow_le_pow_right (by decide) h6
  have hM0 : 0 < 2 ^ V := Nat.pow_pos (by decide)
  obtain ⟨M, hM⟩ : ∃ M, 2 ^ V = M := ⟨_, rfl⟩
  rw [hM] at hl1 hl2 hl3 hMp hM0 HRELX HRELY
  have HL1 := hideN hl1
  have HL2 := hideN hl2
  have HL3 := hideN hl3
  clear hM hl1 hl2 hl3
  obtain ⟨z0, z1, z2, y0, y1, y2⟩ := HC.out w5 HB25.out
  go_wp2_with fail
  refine (HWN.out w5 (belNext HB2.out HB25.out)).mono ?_
  rintro e w6 ⟨s6, m6, d6, rfl, hm6, hr6, hb6⟩
  obtain ⟨V6, hV6⟩ : ∃ V6, V6 = w6.alloc (.cells #[.int .i64 (V : Int), .slice s6 m6 d6, .int .i64 rY] 25) := ⟨_, rfl⟩
  have hb66 : Below w6.heap.size w6 V6 := by rw [hV6]; exact belOne _ _
  have HQ6 : Hid (BlkD V6 w6.heap.size (.int .i64 (V : Int)) (.slice s6 m6 d6) (.int .i64 rY)) := by rw [hV6]; exact BlkD.new _ _ _ _
  have HB26w := hideN (belNext HB25.out hb6)
  have HB26 := hideN (belNext (belNext HB25.out hb6) hb66)
  have HN60 := hideN (nds_of_own (row_below hr6 hb66) hm6)
  have HV6 := hideN hV6
  clear z0 z1 z2 y0 y1 y2 hb6 hb66 hr6 hm6 hV6
  obtain ⟨z0, z1, z2, y0, y1, y2⟩ := HC.out w6 HB26w.out
  have hlt3 : B3 < w6.heap.size := cell_lt z0
  have hlt4 : B4 < w6.heap.size := cell_lt y0
  go_wp2_with fail
  try rw [← HV6.out]
  clear z0 z1 z2 y0 y1 y2 hlt3 hlt4
  obtain ⟨B6, hB6⟩ : ∃ B6, w6.heap.size = B6 := ⟨_, rfl⟩
  rw [hB6] at HQ6
  try rw [hB6]
  clear hB6
  have HD : Hid (∀ V', Below V6.heap.size V6 V' → (V'.cell? ⟨B3, 0, none⟩ = some (.int .i64 (V : Int)) ∧ V'.cell? ⟨B3, 1, none⟩ = some (.slice ao n cap) ∧ V'.cell? ⟨B3, 2, none⟩ = some (.int .i64 root) ∧ V'.cell? ⟨B4, 0, none⟩ = some (.int .i64 (V : Int)) ∧ V'.cell? ⟨B4, 1, none⟩ = some (.slice a2 m c2') ∧ V'.cell? ⟨B4, 2, none⟩ = some (.int .i64 fr)) ∧ V'.cell? ⟨B6, 0, none⟩ = some (.int .i64 (V : Int)) ∧ V'.cell? ⟨B6, 1, none⟩ = some (.slice s6 m6 d6) ∧ V'.cell? ⟨B6, 2, none⟩ = some (.int .i64 rY)) := fun V' hV => ⟨HC.out V' (belNext HB26.out hV), (HQ6.out.below hV).c0, (HQ6.out.below hV).c1, (HQ6.out.below hV).c2⟩
  obtain ⟨⟨z0, z1, z2, y0, y1, y2⟩, x0, x1, x2⟩ := HD.out V6 (Below.refl _ _)
  go_wp2_with fail
  refine (HIT.out V6 (belNext HB2.out (belNext HB26.out (Below.refl V6.heap.size V6)))).mono ?_
  rintro e w7 ⟨at7, ct7, rfl, ho7, hb7⟩
  obtain ⟨g7, rfl⟩ : ∃ g, at7 = some ⟨g, 0, none⟩ := by
    obtain ⟨g, cp, he, _⟩ := ho7.cons_form (by rw [HL1.out]; exact hM0)
    injection he with e1 e2 e3
    exact ⟨g, e1⟩
  rw [HL1.out] at ho7
  rw [HL1.out]
  have HT7 : Hid (∀ V', Below w7.heap.size w7 V' → ∀ i, i < M → V'.cell? ⟨g7, i, none⟩ = some (.bool (T.getD i false))) := fun V' hV i hi => (ownb_cell (ho7.below hV) (i := i) (by rw [HL1.out]; exact hi)).1
  have HB67 := hideN (belNext (Below.refl V6.heap.size V6) hb7)
  clear ho7 z0 z1 z2 y0 y1 y2 x0 x1 x2
  obtain ⟨⟨z0, z1, z2, y0, y1, y2⟩, x0, x1, x2⟩ := HD.out w7 HB67.out
  clear hb7
  go_wp2_with fail
  refine (HXT.out w7 (belNext HB26.out HB67.out)).mono ?_
  rintro e w8 ⟨at8, ct8, rfl, ho8, hb8⟩
  obtain ⟨g8, rfl⟩ : ∃ g, at8 = some ⟨g, 0, none⟩ := by
    obtain ⟨g, cp, he, _⟩ := ho8.cons_form (by rw [HL2.out]; exact hM0)
    injection he with e1 e2 e3
    exact ⟨g, e1⟩
  rw [HL2.out] at ho8
  rw [HL2.out]
  have HT8 : Hid (∀ V', Below w8.heap.size w8 V' → ∀ i, i < M → V'.cell? ⟨g8, i, none⟩ = some (.bool (P.getD i false))) := fun V' hV i hi => (ownb_cell (ho8.below hV) (i := i) (by rw [HL2.out]; exact hi)).1
  have HB68 := hideN (belNext HB67.out hb8)
  clear ho8 z0 z1 z2 y0 y1 y2 x0 x1 x2
  obtain ⟨⟨z0, z1, z2, y0, y1, y2⟩, x0, x1, x2⟩ := HD.out w8 HB68.out
  have HT7c := hideN hb8
  clear hb8
  go_wp2_with fail
  refine (HYT.out w8 s6 m6 d6 (HN60.out.below HB68.out)).mono ?_
  rintro e w9 ⟨at9, ct9, rfl, ho9, hb9⟩
  obtain ⟨g9, rfl⟩ : ∃ g, at9 = some ⟨g, 0, none⟩ := by
    obtain ⟨g, cp, he, _⟩ := ho9.cons_form (by rw [HL3.out]; exact hM0)
    injection he with e1 e2 e3
    exact ⟨g, e1⟩
  rw [HL3.out] at ho9
  rw [HL3.out]
  have HT9 : Hid (∀ V', Below w9.heap.size w9 V' → ∀ i, i < M → V'.cell? ⟨g9, i, none⟩ = some (.bool (Q.getD i false))) := fun V' hV i hi => (ownb_cell (ho9.below hV) (i := i) (by rw [HL3.out]; exact hi)).1
  have HB69 := hideN (belNext HB68.out hb9)
  clear ho9 z0 z1 z2 y0 y1 y2 x0 x1 x2
  obtain ⟨⟨z0, z1, z2, y0, y1, y2⟩, x0, x1, x2⟩ := HD.out w9 HB69.out
  have HT8c := hideN hb9
  clear hb9
  have HTT := hideN (fun V' (hV : Below w9.heap.size w9 V') i (hi : i < M) => And.intro (HT7.out V' (belNext HT7c.out (belNext HT8c.out hV)) i hi) (And.intro (HT8.out V' (belNext HT8c.out hV) i hi) (HT9.out V' hV i hi)))
  have HC9 := hideN (fun V' (hV : Below w9.heap.size w9 V') => HC.out V' (belNext HB26.out (belNext HB69.out hV)))
  have HB29 := hideN (belNext HB26.out HB69.out)
  have HBW9 := hideN (belNext HB1.out (belNext HB2.out HB29.out))
  clear HT7 HT8 HT9 HT7c HT8c HXT HYT HIT HWN HL1 HL2 HL3 HD HC HB67 HB68 HB69 HQ6 HV6 HB26w HB25 HB24 HB23 x0 x1 x2
  go_wp2_with fail
  go_loopw [11, 12] (fun a i wr => ∃ kk z : Nat, uu + 1 ≤ kk ∧ kk ≤ V ∧ 1 ≤ z ∧ z ≤ 32 ∧ a = .int .i64 (z : Int) ∧ i = .int .i64 (kk : Int) ∧ Hid (z = 2 ^ (kk - (uu + 1))) ∧ wr = w9) (fun _ i _ => V - (intOf i).toNat)
  case atStart => exact ⟨uu + 1, 1, Nat.le_refl _, by omega, by omega, by omega, rfl, by go_num, by show _ = _; rw [Nat.sub_self, Nat.pow_zero], rfl⟩
  case round =>
    obtain ⟨kk, z, hk1, hk2, hz1, hz2, rfl, rfl, hzv, rfl⟩ := hrel
    by_cases hlt : kk < V
    · have HZ2 : Hid (2 * z = 2 ^ (kk + 1 - (uu + 1))) := by
        show _ = _
        rw [show kk + 1 - (uu + 1) = kk - (uu + 1) + 1 by omega, Nat.pow_succ, ← hzv.out, Nat.mul_comm]
      have hz3 : 2 * z ≤ 32 := by
        rw [HZ2.out]
        exact Nat.le_trans (Nat.pow_le_pow_right (by decide) (show kk + 1 - (uu + 1) ≤ 5 by omega)) (by decide)
      go_wp2
      go_roundw
      case rel => exact ⟨kk + 1, 2 * z, by omega, by omega, by omega, by omega, by go_num, by go_num, HZ2, by first | rfl | trivial⟩
      case measure => simp [intOf]; omega
    · obtain rfl : kk = V := by omega
      have HBT : Hid (z = 2 ^ (kk - 1 - uu)) := by show _ = _; rw [hzv.out, show kk - (uu + 1) = kk - 1 - uu by omega]
      rw [← HBT.out] at HRELX HRELY
      clear hzv hlt hk1 hk2 HBT
      have hzz : ¬ (z : Int) = 0 := by omega
      go_wp2_with fail
      go_loopw [13] (fun i ws => ∃ j : Nat, j ≤ M ∧ i = .int .i64 (j : Int) ∧ Hid (Below wr.heap.size wr ws)) (fun i _ => M - (intOf i).toNat)
      case atStart => exact ⟨0, Nat.zero_le _, rfl, Below.refl _ _⟩
      case round =>
        obtain ⟨j, hj, rfl, HBR⟩ := hrel
        clear z0 z1 z2 y0 y1 y2
        obtain ⟨z0, z1, z2, y0, y1, y2⟩ := HC9.out _ HBR.out
        by_cases hlt : j < M
        · have ht := HTT.out _ HBR.out j hlt
          have h1 := ht.1
          have h2 := ht.2.1
          have h3 := ht.2.2
          clear ht
          have rx := HRELX.out j hlt
          have ry := HRELY.out j hlt
          obtain ⟨dq, hdq⟩ : ∃ dq, j / z = dq := ⟨_, rfl⟩
          obtain ⟨r, hr⟩ : ∃ r, dq % 2 = r := ⟨_, rfl⟩
          rw [hdq, hr] at rx ry
          have hdj : dq ≤ j := by rw [← hdq]; exact Nat.div_le_self _ _
          have q2 : (j : Int) / (z : Int) = (dq : Int) := by rw [← hdq]; simp
          have q1 : (j : Int).tdiv (z : Int) = (dq : Int) := by rw [Int.tdiv_eq_ediv_of_nonneg (by omega)]; exact q2
          have q4 : (dq : Int) % 2 = (r : Int) := by omega
          have q3 : (dq : Int).tmod 2 = (r : Int) := by rw [Int.tmod_eq_emod_of_nonneg (by omega)]; exact q4
          have hr2 : r < 2 := by omega
          obtain ⟨b1, hb1⟩ : ∃ b1, (r == 1) = b1 := ⟨_, rfl⟩
          have q5 : ((r : Int) == 1) = b1 := by rw [← hb1]; rcases (by omega : r = 0 ∨ r = 1) with rfl | rfl <;> rfl
          rw [hb1] at rx ry
          clear hdq hr hb1
          go_wp2_with fail
          by_cases hbs : b1 = so
          · have f1 : (b1 == so) = true := by simpa using hbs
            have f2 : (b1 != so) = false := by simpa using hbs
            rw [rx hbs] at h2
            clear rx ry hbs
            generalize T.getD j false = tj at *
            generalize Q.getD j false = qj at *
            go_quiet (fail)
            go_wp2_with fail
            go_roundw
            case rel => exact ⟨j + 1, by omega, by go_num, belNext HBR.out (below_drewN (Below.refl _ _) _)⟩
            case measure => simp [intOf]; omega
          · have f1 : (b1 == so) = false := by simpa using hbs
            have f2 : (b1 != so) = true := by simpa using hbs
            rw [ry (by cases b1 <;> cases so <;> simp at hbs ⊢)] at h3
            clear rx ry hbs
            generalize T.getD j false = tj at *
            generalize P.getD j false = pj at *
            go_quiet (fail)
            go_wp2_with fail
            go_roundw
            case rel => exact ⟨j + 1, by omega, by go_num, belNext HBR.out (below_drewN (Below.refl _ _) _)⟩
            case measure => simp [intOf]; omega
        · obtain rfl : j = M := by omega
          clear hlt hj
          go_wp2_with fail
          obtain ⟨wl, hwl⟩ : ∃ wl, wl = wr := ⟨_, rfl⟩
          rw [← hwl] at HBR
          rw [← hwl]
          clear hwl
          have HC8 := hideN (fun V' (hV : Below wl.heap.size wl V') => HC9.out V' (belNext HBR.out hV))
          have HB2L := hideN (belNext HB29.out HBR.out)
          have HBWL := hideN (belNext HBW9.out HBR.out)
          clear z0 z1 z2 y0 y1 y2
          have hbz := below_drewN (Below.refl wl.heap.size wl) 1
          obtain ⟨z0, z1, z2, y0, y1, y2⟩ := HC8.out wl.drew hbz
          refine region_U (fin := 23) (S := fun V' => V'.cell? ⟨B3, 0, none⟩ = some (.int .i64 (kk : Int)) ∧ V'.cell? ⟨B3, 1, none⟩ = some (.slice ao n cap) ∧ V'.cell? ⟨B3, 2, none⟩ = some (.int .i64 root) ∧ V'.cell? ⟨B4, 0, none⟩ = some (.int .i64 (kk : Int)) ∧ V'.cell? ⟨B4, 1, none⟩ = some (.slice a2 m c2') ∧ V'.cell? ⟨B4, 2, none⟩ = some (.int .i64 fr)) (by kernel_rfl) ⟨z0, z1, z2, y0, y1, y2⟩ (fun hHeld => ?_)
          clear hHeld
          refine takeU (i := 0) (v := .agg #[.int .i64 (kk : Int), .slice a2 m c2', .int .i64 fr]) rfl (by rfl) (by kernel_rfl) (by kernel_rfl) (reach_one (by kernel_rfl)) (by kernel_rfl) (by kernel_rfl) (fun _ _ _ h => h) (Or.inl ⟨by rfl, fun w hS => by obtain ⟨z0, z1, z2, y0, y1, y2⟩ := hS; go_simp⟩) ⟨z0, z1, z2, y0, y1, y2⟩ ?_
          simp only [List.getElem_toArray, List.getElem_cons_zero, Act.put, List.setIfInBounds_toArray, List.set_cons_zero, List.set_cons_succ]
          refine takeU (i := 1) (v := .int .i64 (uu : Int)) rfl (by rfl) (by kernel_rfl) (by kernel_rfl) (reach_one (by kernel_rfl)) (by kernel_rfl) (by kernel_rfl) (fun _ _ _ h => h) (Or.inl ⟨by rfl, fun w hS => by obtain ⟨z0, z1, z2, y0, y1, y2⟩ := hS; go_simp⟩) ⟨z0, z1, z2, y0, y1, y2⟩ ?_
          simp only [List.getElem_toArray, List.getElem_cons_zero, List.getElem_cons_succ, Act.put, List.setIfInBounds_toArray, List.set_cons_zero, List.set_cons_succ]
          refine takeU (i := 2) (v := .bool so) rfl (by rfl) (by kernel_rfl) (by kernel_rfl) (reach_one (by kernel_rfl)) (by kernel_rfl) (by kernel_rfl) (fun _ _ _ h => h) (Or.inl ⟨by rfl, fun w hS => by obtain ⟨z0, z1, z2, y0, y1, y2⟩ := hS; go_simp⟩) ⟨z0, z1, z2, y0, y1, y2⟩ ?_
          simp only [List.getElem_toArray, List.getElem_cons_zero, List.getElem_cons_succ, Act.put, List.setIfInBounds_toArray, List.set_cons_zero, List.set_cons_succ]
          refine takeU (i := 3) (v := .bool (!so)) rfl (by rfl) (by kernel_rfl) (by kernel_rfl) (reach_one (by kernel_rfl)) (by kernel_rfl) (by kernel_rfl) (fun _ _ _ h => h) (Or.inl ⟨by rfl, fun w hS => by obtain ⟨z0, z1, z2, y0, y1, y2⟩ := hS; go_simp⟩) ⟨z0, z1, z2, y0, y1, y2⟩ ?_
          simp only [List.getElem_toArray, List.getElem_cons_zero, List.getElem_cons_succ, Act.put, List.setIfInBounds_toArray, List.set_cons_zero, List.set_cons_succ]
          refine takeU (i := 5) (v := .agg #[.int .i64 (kk : Int), .slice a2 m c2', .int .i64 fr]) rfl (by rfl) (by kernel_rfl) (by kernel_rfl) (reach_one (by kernel_rfl)) (by kernel_rfl) (by kernel_rfl) (fun _ _ _ h => h) (Or.inl ⟨by rfl, fun w hS => by obtain ⟨z0, z1, z2, y0, y1, y2⟩ := hS; go_simp⟩) ⟨z0, z1, z2, y0, y1, y2⟩ ?_
          simp only [List.getElem_toArray, List.getElem_cons_zero, List.getElem_cons_succ, Act.put, List.setIfInBounds_toArray, List.set_cons_zero, List.set_cons_succ]
          refine oneU (i := 4) (by kernel_rfl) rfl (by rfl) ?_
          simp only [List.getElem_toArray, List.getElem_cons_zero, List.getElem_cons_succ]
          go_simp
          refine (HAG.out wl.drew (belNext HB2L.out hbz)).mono ?_
          rintro e w11 ⟨a11, m11, c11, rfl, hm11, hr11, hb11⟩
          have HBL11 := hideN (belNext hbz hb11)
          have HN11 := hideN (nds_of_own hr11 hm11)
          have hm11' : m11 ≤ 64 := by have h3 : l.length ≤ 64 := HFI.out.2; have h2 : l.length = m11 := hm11; omega
          obtain ⟨z0, z1, z2, y0, y1, y2⟩ := HC8.out w11 HBL11.out
          refine ⟨⟨z0, z1, z2, y0, y1, y2⟩, ?_⟩
          clear hb11 hr11 hm11 hbz
          refine oneU (i := 6) (by kernel_rfl) rfl (by rfl) ?_
          simp only [List.getElem_toArray, List.getElem_cons_zero, List.getElem_cons_succ]
          go_simp
          refine (HRH.out w11 (belNext HB2L.out HBL11.out) a11 m11 c11 HN11.out (by omega)).mono ?_
          rintro e w12 ⟨rfl, hb12⟩
          have HBL12 := hideN (belNext HBL11.out hb12)
          obtain ⟨z0, z1, z2, y0, y1, y2⟩ := HC8.out w12 HBL12.out
          refine ⟨⟨z0, z1, z2, y0, y1, y2⟩, ?_⟩
          clear hb12
          refine takeU (i := 7) (v := .bool true) rfl (by rfl) (by kernel_rfl) (by kernel_rfl) (reach_one (by kernel_rfl)) (by kernel_rfl) (by kernel_rfl) (fun _ _ _ h => h) (Or.inl ⟨by rfl, fun w hS => by obtain ⟨z0, z1, z2, y0, y1, y2⟩ := hS; go_simp⟩) ⟨z0, z1, z2, y0, y1, y2⟩ ?_
          simp only [List.getElem_toArray, List.getElem_cons_zero, List.getElem_cons_succ, Act.put, List.setIfInBounds_toArray, List.set_cons_zero, List.set_cons_succ]
          refine takeU (i := 8) (v := .agg #[.int .i64 (kk : Int), .slice a2 m c2', .int .i64 fr]) rfl (by rfl) (by kernel_rfl) (by kernel_rfl) (reach_one (by kernel_rfl)) (by kernel_rfl) (by kernel_rfl) (fun _ _ _ h => h) (Or.inl ⟨by rfl, fun w hS => by obtain ⟨z0, z1, z2, y0, y1, y2⟩ := hS; go_simp⟩) ⟨z0, z1, z2, y0, y1, y2⟩ ?_
          simp only [List.getElem_toArray, List.getElem_cons_zero, List.getElem_cons_succ, Act.put, List.setIfInBounds_toArray, List.set_cons_zero, List.set_cons_succ]
          refine takeU (i := 10) (v := .int .i64 (uu : Int)) rfl (by rfl) (by kernel_rfl) (by kernel_rfl) (reach_one (by kernel_rfl)) (by kernel_rfl) (by kernel_rfl) (fun _ _ _ h => h) (Or.inl ⟨by rfl, fun w hS => by obtain ⟨z0, z1, z2, y0, y1, y2⟩ := hS; go_simp⟩) ⟨z0, z1, z2, y0, y1, y2⟩ ?_
          simp only [List.getElem_toArray, List.getElem_cons_zero, List.getElem_cons_succ, Act.put, List.setIfInBounds_toArray, List.set_cons_zero, List.set_cons_succ]
          refine oneU (i := 9) (by kernel_rfl) rfl (by rfl) ?_
          simp only [List.getElem_toArray, List.getElem_cons_zero, List.getElem_cons_succ]
          go_simp
          refine (HND.out w12 (belNext HB2L.out HBL12.out)).mono ?_
          rintro e w13 ⟨a13, c13, rfl, ho13, hb13⟩
          have HBL13 := hideN (belNext HBL12.out hb13)
          obtain ⟨z0, z1, z2, y0, y1, y2⟩ := HC8.out w13 HBL13.out
          refine ⟨⟨z0, z1, z2, y0, y1, y2⟩, ?_⟩
          clear hb13
          refine oneU (i := 11) (by kernel_rfl) rfl (by rfl) ?_
          simp only [List.getElem_toArray, List.getElem_cons_zero, List.getElem_cons_succ]
          go_simp
          refine (rgHas_any (.slice a13 K.length c13) K (uu : Int) w13 ho13.isInts (by have := HNLE.out; omega)).mono ?_
          rintro e w14 ⟨rfl, rfl⟩
          rw [HHN.out]
          have HBE := hideN (belNext HBWL.out HBL13.out)
          refine ⟨⟨z0, z1, z2, y0, y1, y2⟩, ?_⟩
          refine takeU (i := 12) (v := .bool true) rfl (by rfl) (by kernel_rfl) (by kernel_rfl) (reach_one (by kernel_rfl)) (by kernel_rfl) (by kernel_rfl) (fun _ _ _ h => h) (Or.inl ⟨by rfl, fun w hS => by obtain ⟨z0, z1, z2, y0, y1, y2⟩ := hS; go_simp⟩) ⟨z0, z1, z2, y0, y1, y2⟩ ?_
          simp only [List.getElem_toArray, List.getElem_cons_zero, List.getElem_cons_succ, Act.put, List.setIfInBounds_toArray, List.set_cons_zero, List.set_cons_succ]
          refine takeU (i := 13) (v := .bool true) rfl (by rfl) (by kernel_rfl) (by kernel_rfl) (reach_one (by kernel_rfl)) (by kernel_rfl) (by kernel_rfl) (fun _ _ _ h => h) (Or.inl ⟨by rfl, fun w hS => by obtain ⟨z0, z1, z2, y0, y1, y2⟩ := hS; go_simp⟩) ⟨z0, z1, z2, y0, y1, y2⟩ ?_
          simp only [List.getElem_toArray, List.getElem_cons_zero, List.getElem_cons_succ, Act.put, List.setIfInBounds_toArray, List.set_cons_zero, List.set_cons_succ]
          refine takeU (i := 14) (v := .bool true) rfl (by rfl) (by kernel_rfl) (by kernel_rfl) (reach_one (by kernel_rfl)) (by kernel_rfl) (by kernel_rfl) (fun _ _ _ h => h) (Or.inl ⟨by rfl, fun w hS => by obtain ⟨z0, z1, z2, y0, y1, y2⟩ := hS; go_simp⟩) ⟨z0, z1, z2, y0, y1, y2⟩ ?_
          simp only [List.getElem_toArray, List.getElem_cons_zero, List.getElem_cons_succ, Act.put, List.setIfInBounds_toArray, List.set_cons_zero, List.set_cons_succ]
          refine takeU (i := 15) (v := .pointer (some ⟨B4, 1, none⟩)) rfl (by rfl) (by kernel_rfl) (by kernel_rfl) (reach_one (by kernel_rfl)) (by kernel_rfl) (by kernel_rfl) (fun _ _ _ h => h) (Or.inl ⟨by rfl, fun w hS => by obtain ⟨z0, z1, z2, y0, y1, y2⟩ := hS; go_simp⟩) ⟨z0, z1, z2, y0, y1, y2⟩ ?_
          simp only [List.getElem_toArray, List.getElem_cons_zero, List.getElem_cons_succ, Act.put, List.setIfInBounds_toArray, List.set_cons_zero, List.set_cons_succ]
          refine takeU (i := 16) (v := .slice a2 m c2') rfl (by rfl) (by kernel_rfl) (by kernel_rfl) (reach_one (by kernel_rfl)) (by kernel_rfl) (by kernel_rfl) (fun _ _ _ h => h) (Or.inl ⟨by rfl, fun w hS => by obtain ⟨z0, z1, z2, y0, y1, y2⟩ := hS; go_simp⟩) ⟨z0, z1, z2, y0, y1, y2⟩ ?_
          simp only [List.getElem_toArray, List.getElem_cons_zero, List.getElem_cons_succ, Act.put, List.setIfInBounds_toArray, List.set_cons_zero, List.set_cons_succ]
          refine takeU (i := 17) (v := .int .i64 (m : Int)) rfl (by rfl) (by kernel_rfl) (by kernel_rfl) (reach_one (by kernel_rfl)) (by kernel_rfl) (by kernel_rfl) (fun _ _ _ h => h) (Or.inl ⟨by rfl, fun w hS => by obtain ⟨z0, z1, z2, y0, y1, y2⟩ := hS; go_simp⟩) ⟨z0, z1, z2, y0, y1, y2⟩ ?_
          simp only [List.getElem_toArray, List.getElem_cons_zero, List.getElem_cons_succ, Act.put, List.setIfInBounds_toArray, List.set_cons_zero, List.set_cons_succ]
          refine takeU (i := 18) (v := .pointer (some ⟨B3, 1, none⟩)) rfl (by rfl) (by kernel_rfl) (by kernel_rfl) (reach_one (by kernel_rfl)) (by kernel_rfl) (by kernel_rfl) (fun _ _ _ h => h) (Or.inl ⟨by rfl, fun w hS => by obtain ⟨z0, z1, z2, y0, y1, y2⟩ := hS; go_simp⟩) ⟨z0, z1, z2, y0, y1, y2⟩ ?_
          simp only [List.getElem_toArray, List.getElem_cons_zero, List.getElem_cons_succ, Act.put, List.setIfInBounds_toArray, List.set_cons_zero, List.set_cons_succ]
          refine takeU (i := 19) (v := .slice ao n cap) rfl (by rfl) (by kernel_rfl) (by kernel_rfl) (reach_one (by kernel_rfl)) (by kernel_rfl) (by kernel_rfl) (fun _ _ _ h => h) (Or.inl ⟨by rfl, fun w hS => by obtain ⟨z0, z1, z2, y0, y1, y2⟩ := hS; go_simp⟩) ⟨z0, z1, z2, y0, y1, y2⟩ ?_
          simp only [List.getElem_toArray, List.getElem_cons_zero, List.getElem_cons_succ, Act.put, List.setIfInBounds_toArray, List.set_cons_zero, List.set_cons_succ]
          refine takeU (i := 20) (v := .int .i64 (n : Int)) rfl (by rfl) (by kernel_rfl) (by kernel_rfl) (reach_one (by kernel_rfl)) (by kernel_rfl) (by kernel_rfl) (fun _ _ _ h => h) (Or.inl ⟨by rfl, fun w hS => by obtain ⟨z0, z1, z2, y0, y1, y2⟩ := hS; go_simp⟩) ⟨z0, z1, z2, y0, y1, y2⟩ ?_
          simp only [List.getElem_toArray, List.getElem_cons_zero, List.getElem_cons_succ, Act.put, List.setIfInBounds_toArray, List.set_cons_zero, List.set_cons_succ]
          have hmnI : (m : Int) ≤ (n : Int) := by omega
          refine takeU (i := 21) (v := .bool true) rfl (by rfl) (by kernel_rfl) (by kernel_rfl) (reach_one (by kernel_rfl)) (by kernel_rfl) (by kernel_rfl) (fun _ _ _ h => h) (Or.inl ⟨by rfl, fun w hS => by obtain ⟨z0, z1, z2, y0, y1, y2⟩ := hS; go_simp⟩) ⟨z0, z1, z2, y0, y1, y2⟩ ?_
          simp only [List.getElem_toArray, List.getElem_cons_zero, List.getElem_cons_succ, Act.put, List.setIfInBounds_toArray, List.set_cons_zero, List.set_cons_succ]
          refine takeU (i := 22) (v := .bool true) rfl (by rfl) (by kernel_rfl) (by kernel_rfl) (reach_one (by kernel_rfl)) (by kernel_rfl) (by kernel_rfl) (fun _ _ _ h => h) (Or.inl ⟨by rfl, fun w hS => by obtain ⟨z0, z1, z2, y0, y1, y2⟩ := hS; go_simp⟩) ⟨z0, z1, z2, y0, y1, y2⟩ ?_
          simp only [List.getElem_toArray, List.getElem_cons_zero, List.getElem_cons_succ, Act.put, List.setIfInBounds_toArray, List.set_cons_zero, List.set_cons_succ]
          refine oneU (i := 23) (by kernel_rfl) rfl (by rfl) ?_
          simp only [List.getElem_toArray, List.getElem_cons_zero, List.getElem_cons_succ]
          go_simp
          refine doneU (by kernel_rfl) ?_ _
          go_wp2
          go_ret
          exact ⟨rfl, HBE.out⟩

set_option maxRecDepth 100000 in
theorem fnBddWith_lifted (os : Os) (started : os.Started) (H : Type) (enc : TypeId × Value → H) :
    ReturnsInHanded {} Try.checked os 10 .any (Rows.fnBddWithSpec.pre6 enc Try.prog Try.f10 Rows.fnBddWithRow.domain false) (Rows.fnBddWithSpec.post enc Try.prog Try.f10 false true false false) := by
  refine returnsInHanded_of_change (C := Try.checked) own started (by kernel_rfl) Try.func10
    (ChangeSpec.witness6 (enc := enc) (C := Try.checked) false ⟨#[], #[.slice none 0 0], []⟩ 8 (by kernel_rfl) (by kernel_rfl) (by kernel_rfl) (by kernel_rfl)) ?_
  intro W base args ds gs before hval0 hW hcnd _
  have hval : ∀ (j : Nat) t v, Try.f10.params[j]? = some t → args[j]? = some v → Value.okWide Try.prog W .any base t v := hval0
  have hW' := hW
  obtain ⟨p, q, hA0, hV, rfl, hfz, hnd⟩ := hW
  have hA : DataW.TrodAll enc Try.prog W 0 (fun _ => true) true Try.f10.params.toList args.toList ds p := hA0
  rw [Try.params10] at hA hval
  obtain ⟨v0, vs0, d0, ds0, p0, q0, hargs, rfl, rfl, h0, r0⟩ := trodAll_cons hA
  obtain ⟨rfl, rfl, rfl⟩ := trodAll_nil r0
  obtain rfl : args = #[v0] := by cases args; simp_all
  obtain ⟨rfl, rfl⟩ := trodVars_none hV
  have k0 := h0
  have lt0 : ∀ x ∈ p0, x.block < W.heap.size := by obtain ⟨m, hm⟩ := k0; exact DataW.trod_lt m _ _ _ hm
  have hv0 := hval 0 46 v0 rfl rfl
  obtain ⟨ao, len, cap, rfl⟩ := okWide_slice Try.underlying46 hv0
  obtain ⟨fuel, hf⟩ := h0
  obtain ⟨bs, hbs, hml⟩ := isBytes_of_trod (by simpa [Value.cells] using hf)
  clear hA0 hval0
  refine (fnBddWith_walk _ bs W hbs (fun ao' n' cap' b off h1 h2 => by cases h1; subst h2; exact okWide_slice_lt Try.underlying46 hv0) hml).mono fun e W' ⟨he, bel⟩ => ?_
  subst he
  exact ⟨_, rfl, _, _, _, [], _, [], hW', trodAll_mk1 (shut_bool Try.underlying4 _), (trodAll_cons_mk (Below.trod laidOutN (by kernel_rfl) (of_decide_eq_true (by kernel_rfl)) k0 bel lt0) trodAll_mk0), rfl, bel.frame _, fun h => by cases h⟩

theorem fnBddWith_holds : Rows.FnBddWithSaid :=
  OpenClaim.holds_of_wide 10 Try.f10 rfl rfl rfl rfl rfl rfl rfl ⟨rfl, rfl, rfl, rfl, rfl⟩ rfl rfl rfl rfl rfl (by kernel_rfl) Try.func10 (by kernel_rfl)
    (of_decide_eq_true (by kernel_rfl)) (by unfold Func.isWrapper; first | (rw [if_pos (by decide +kernel)]; kernel_rfl) | (rw [if_neg (by decide +kernel)]; exact ⟨rfl, rfl⟩))
    (fun os started H enc _ => fnBddWith_lifted os started H enc)

end Go.Proofs.Ytknpifjkllcdeaa
