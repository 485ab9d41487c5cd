/-
  The law FnBddSome: of every drawn diagram, that some value of a variable makes it so is what both values together make; it holds wherever the diagram does, is never just if the diagram is, and does not ask the variable. No condition: every argument that can be read.
-/
import Derived.Test.YtknpifjkllcdeaaBdDw
import Derived.Test.YtknpifjkllcdeaaBdPd
import Derived.Test.YtknpifjkllcdeaaBdRg
import Derived.Test.YtknpifjkllcdeaaBdNi
import Derived.Test.YtknpifjkllcdeaaBdTu
import Derived.Test.YtknpifjkllcdeaaOpenB
namespace Go.Proofs.Ytknpifjkllcdeaa
open Go.ChangeShapes Go.WideShapes Go.ChangeAt Go.RowKit Go.Deep Go.Joins
set_option linter.unusedVariables false

attribute [local go_sem] Oper.semAt_some

theorem someA_fits {ok : Bool} {vi : Int} {t : List Bool} (h : ok = true → ∃ V : Nat, vi = (V : Int) ∧ V ≤ 6) : (∀ p ∈ (ansOf ok vi t).2.1, FitN p) ∧ (ansOf ok vi t).2.1.length ≤ 64 := by
  cases ok with
  | false => simp [ansOf]
  | true =>
    obtain ⟨V, rfl, h6⟩ := h rfl
    have hd := draw_fit (t := t) h6
    unfold ansOf
    rw [if_pos rfl, Int.toNat_natCast]
    exact ⟨hd.1, hd.2.1⟩

set_option maxRecDepth 100000 in
set_option maxHeartbeats 16000000 in
theorem fnBddSome_walk (v : Value) (bs : List Int) (w : World) (hv : IsBytes w v bs) (hal : ∀ ao n cap b off, v = .slice ao n cap → ao = some ⟨b, off, none⟩ → b < w.heap.size) (hml : bs.length ≤ maxLen) :
    Calls Try.prog 11 #[v] w fun e w' => e = .returned (.bool true) ∧ Below w.heap.size w w' := by
  unfold maxLen at hml
  have HDR := hideN (fun (h : bs.length ≤ 1048576) => drawBddSome_any v bs w hv h hal)
  obtain ⟨aoc, capc, rfl, _⟩ := hv
  clear hal
  by_cases hbig : bs.length ≤ 1048576
  case neg =>
    have d1 : decide ((1048576 : Int) < (bs.length : Int)) = true := by simp; omega
    go_enter Try.func11, Try.ntmps11
    go_wp2_with fail
    go_ret
    exact ⟨rfl, Below.refl _ _⟩
  have d1 : decide ((1048576 : Int) < (bs.length : Int)) = false := by simp; omega
  have HDW := hideN (HDR.out hbig)
  clear HDR
  go_enter Try.func11, Try.ntmps11
  go_wp2_with fail
  refine HDW.out.mono ?_
  rintro e w0 ⟨vi, root, ao, n, cap, ns, u, rfl, hsv, hsr, hn80, hnl, hsm, hrow, hb0, hul, huh⟩
  have hN0 : Nds w0 ao n cap ns := nds_of_own hrow hnl
  have H64 : ∀ q ∈ ns, I64N q := fun q hq => smN64 (hsm q hq)
  have HR := sm64 hsr
  obtain ⟨W1, hW1⟩ : ∃ W1, W1 = w0.alloc (.cells #[.int .i64 vi, .slice ao n cap, .int .i64 root] 25) := ⟨_, rfl⟩
  have HK1 : Hid (BlkD W1 w0.heap.size (.int .i64 vi) (.slice ao n cap) (.int .i64 root)) := by rw [hW1]; exact BlkD.new _ _ _ _
  have HB1 : Hid (Below w.heap.size w W1) := by rw [hW1]; exact belNext hb0 (belOne _ _)
  have hN1 : Nds W1 ao n cap ns := by rw [hW1]; exact hN0.below (belOne _ _)
  have HIS := hideN (fun V (hV : Below W1.heap.size W1 V) => implBddSome_any vi root u ao n cap ns V (hN1.below hV) H64 HR)
  have HSS := hideN (fun V (hV : Below W1.heap.size W1 V) => specBddSome_any vi root u ao n cap ns V (hN1.below hV) H64 HR (by omega))
  have HSO := hideN (fun V (hV : Below W1.heap.size W1 V) => specBddOk_any vi root ao n cap ns V (hN1.below hV) H64 HR (by omega))
  have HIW := hideN (fun (so : Bool) V (hV : Below W1.heap.size W1 V) => implBddWith_any vi root u so ao n cap ns V (hN1.below hV) H64 HR)
  have HNB := hideN (fun V (hV : Below W1.heap.size W1 V) => hN1.below hV)
  have HI64 := hideN H64
  have HIR := hideN HR
  have HFI := hideN (someA_fits (ok := bddB vi ns root && varB vi u) (vi := vi) (t := someT vi ns root u) (fun h => by
    rw [Bool.and_eq_true] at h
    obtain ⟨V, rfl, h6, -⟩ := bdd_split h.1
    exact ⟨V, rfl, h6⟩))
  obtain ⟨A, hA⟩ : ∃ A, ansOf (bddB vi ns root && varB vi u) vi (someT vi ns root u) = A := ⟨_, rfl⟩
  rw [hA] at HIS HSS HFI
  obtain ⟨fv, l, fr⟩ := A
  have HA := hideN hA
  have HW1 := hideN hW1
  have HNL := hideN hnl
  have hvl := hsv.1
  have hvh := hsv.2
  have c0 := HK1.out.c0
  have c1 := HK1.out.c1
  have c2 := HK1.out.c2
  have c3 := HK1.out.lt
  clear hN0 hN1 H64 HR hsm hrow hW1 hb0 hsv hsr HDW hA
  go_wp2_with fail
  try rw [← HW1.out]
  refine (HIS.out W1 (Below.refl _ _)).mono ?_
  rintro e w2 ⟨a2, m, c2', rfl, hm2, hr2, hb2⟩
  have hm64 : m ≤ 64 := by have := HFI.out.2; simp only at *; omega
  have HM2 := hideN hm2
  obtain ⟨V2, hV2⟩ : ∃ V2, V2 = w2.alloc (.cells #[.int .i64 fv, .slice a2 m c2', .int .i64 fr] 25) := ⟨_, rfl⟩
  have hb22 : Below w2.heap.size w2 V2 := by rw [hV2]; exact belOne _ _
  have HX2 : Hid (BlkD V2 w2.heap.size (.int .i64 fv) (.slice a2 m c2') (.int .i64 fr)) := by rw [hV2]; exact BlkD.new _ _ _ _
  have HRX := hideN (row_below hr2 hb22)
  have HB2 := hideN (belNext hb2 hb22)
  have HK2 := hideN ((HK1.out.below hb2).below hb22)
  have HV2 := hideN hV2
  have k0 := (HK1.out.below hb2).c0
  have k1 := (HK1.out.below hb2).c1
  have k2 := (HK1.out.below hb2).c2
  have k3 := (HK1.out.below hb2).lt
  clear hr2 hb2 hV2 hb22 c0 c1 c2 c3 hm2
  go_wp2_with fail
  try rw [← HV2.out]
  clear k0 k1 k2 k3
  obtain ⟨B3, hB3⟩ : ∃ B3, w0.heap.size = B3 := ⟨_, rfl⟩
  obtain ⟨B4, hB4⟩ : ∃ B4, w2.heap.size = B4 := ⟨_, rfl⟩
  rw [hB3] at HK2 ⊢
  rw [hB4] at HX2 ⊢
  have HC : Hid (∀ V', Below V2.heap.size V2 V' → V'.cell? ⟨B3, 0, none⟩ = some (.int .i64 vi) ∧ V'.cell? ⟨B3, 1, none⟩ = some (.slice ao n cap) ∧ V'.cell? ⟨B3, 2, none⟩ = some (.int .i64 root) ∧ V'.cell? ⟨B4, 0, none⟩ = some (.int .i64 fv) ∧ V'.cell? ⟨B4, 1, none⟩ = some (.slice a2 m c2') ∧ V'.cell? ⟨B4, 2, none⟩ = some (.int .i64 fr)) := fun V' hV => ⟨(HK2.out.below hV).c0, (HK2.out.below hV).c1, (HK2.out.below hV).c2, (HX2.out.below hV).c0, (HX2.out.below hV).c1, (HX2.out.below hV).c2⟩
  have HRG := hideN (fun V' (hV : Below V2.heap.size V2 V') a4 m4 c4 (h4 : Nds V' a4 m4 c4 l) (hm4 : m4 ≤ 100) => rgBdd_any fv fr fr a2 a4 m m4 c2' c4 l l V' (nds_of_own (row_below HRX.out hV) HM2.out) h4 HFI.out.1 HFI.out.1 (by omega) hm4)
  have hdec : (decide (fr = fr) && decide (l = l)) = true := by simp
  rw [hdec] at HRG
  clear hdec
  obtain ⟨z0, z1, z2, y0, y1, y2⟩ := HC.out V2.drew (below_drewN (Below.refl _ _) 1)
  refine region_U (fin := 20) (S := fun V' => V'.cell? ⟨B3, 0, none⟩ = some (.int .i64 vi) ∧ V'.cell? ⟨B3, 1, none⟩ = some (.slice ao n cap) ∧ V'.cell? ⟨B3, 2, none⟩ = some (.int .i64 root) ∧ V'.cell? ⟨B4, 0, none⟩ = some (.int .i64 fv) ∧ V'.cell? ⟨B4, 1, none⟩ = some (.slice a2 m c2') ∧ V'.cell? ⟨B4, 2, none⟩ = some (.int .i64 fr)) (by kernel_rfl) ⟨z0, z1, z2, y0, y1, y2⟩ (fun hHeld => ?_)
  clear hHeld
  refine takeU (i := 0) (v := .agg #[.int .i64 fv, .slice a2 m c2', .int .i64 fr]) rfl (by rfl) (by kernel_rfl) (by kernel_rfl) (by kernel_rfl) (by kernel_rfl) (by kernel_rfl) (fun _ _ _ h => h) (Or.inl ⟨by rfl, fun w hS => by obtain ⟨z0, z1, z2, y0, y1, y2⟩ := hS; go_simp⟩) ⟨z0, z1, z2, y0, y1, y2⟩ ?_
  simp only [List.getElem_toArray, List.getElem_cons_zero, Act.put, List.setIfInBounds_toArray, List.set_cons_zero, List.set_cons_succ]
  refine takeU (i := 1) (v := .agg #[.int .i64 vi, .slice ao n cap, .int .i64 root]) rfl (by rfl) (by kernel_rfl) (by kernel_rfl) (by kernel_rfl) (by kernel_rfl) (by kernel_rfl) (fun _ _ _ h => h) (Or.inl ⟨by rfl, fun w hS => by obtain ⟨z0, z1, z2, y0, y1, y2⟩ := hS; go_simp⟩) ⟨z0, z1, z2, y0, y1, y2⟩ ?_
  simp only [List.getElem_toArray, List.getElem_cons_zero, List.getElem_cons_succ, Act.put, List.setIfInBounds_toArray, List.set_cons_zero, List.set_cons_succ]
  refine takeU (i := 2) (v := .int .i64 u) rfl (by rfl) (by kernel_rfl) (by kernel_rfl) (by kernel_rfl) (by kernel_rfl) (by kernel_rfl) (fun _ _ _ h => h) (Or.inl ⟨by rfl, fun w hS => by obtain ⟨z0, z1, z2, y0, y1, y2⟩ := hS; go_simp⟩) ⟨z0, z1, z2, y0, y1, y2⟩ ?_
  simp only [List.getElem_toArray, List.getElem_cons_zero, List.getElem_cons_succ, Act.put, List.setIfInBounds_toArray, List.set_cons_zero, List.set_cons_succ]
  refine oneU (i := 3) (by kernel_rfl) rfl (by rfl) ?_
  simp only [List.getElem_toArray, List.getElem_cons_zero, List.getElem_cons_succ]
  go_simp
  have hbd := below_drewN (Below.refl V2.heap.size V2) 1
  refine (HSS.out V2.drew (belNext HB2.out hbd)).mono ?_
  rintro e w3 ⟨a3, m3, c3', rfl, hm3, hr3, hb3⟩
  have HB23 := hideN (belNext hbd hb3)
  have hm34 : m3 ≤ 64 := by have := HFI.out.2; simp only at *; omega
  have HN3 := hideN (nds_of_own hr3 hm3)
  obtain ⟨z0, z1, z2, y0, y1, y2⟩ := HC.out w3 HB23.out
  refine ⟨⟨z0, z1, z2, y0, y1, y2⟩, ?_⟩
  clear hbd hb3 hr3 hm3
  refine oneU (i := 4) (by kernel_rfl) rfl (by rfl) ?_
  simp only [List.getElem_toArray, List.getElem_cons_zero, List.getElem_cons_succ]
  go_simp
  refine (HRG.out w3 HB23.out a3 m3 c3' HN3.out (by omega)).mono ?_
  rintro e w4 ⟨rfl, hb4⟩
  have HB24 := hideN (belNext HB23.out hb4)
  obtain ⟨z0, z1, z2, y0, y1, y2⟩ := HC.out w4 HB24.out
  refine ⟨⟨z0, z1, z2, y0, y1, y2⟩, ?_⟩
  clear hb4 HN3
  refine takeU (i := 5) (v := .bool false) rfl (by rfl) (by kernel_rfl) (by kernel_rfl) (by kernel_rfl) (by kernel_rfl) (by kernel_rfl) (fun _ _ _ h => h) (Or.inl ⟨by rfl, fun w hS => by obtain ⟨z0, z1, z2, y0, y1, y2⟩ := hS; go_simp⟩) ⟨z0, z1, z2, y0, y1, y2⟩ ?_
  simp only [List.getElem_toArray, List.getElem_cons_zero, List.getElem_cons_succ, Act.put, List.setIfInBounds_toArray, List.set_cons_zero, List.set_cons_succ]
  refine takeU (i := 6) (v := .bool false) rfl (by rfl) (by kernel_rfl) (by kernel_rfl) (by kernel_rfl) (by kernel_rfl) (by kernel_rfl) (fun _ _ _ h => h) (Or.inl ⟨by rfl, fun w hS => by obtain ⟨z0, z1, z2, y0, y1, y2⟩ := hS; go_simp⟩) ⟨z0, z1, z2, y0, y1, y2⟩ ?_
  simp only [List.getElem_toArray, List.getElem_cons_zero, List.getElem_cons_succ, Act.put, List.setIfInBounds_toArray, List.set_cons_zero, List.set_cons_succ]
  refine takeU (i := 7) (v := .agg #[.int .i64 vi, .slice ao n cap, .int .i64 root]) rfl (by rfl) (by kernel_rfl) (by kernel_rfl) (by kernel_rfl) (by kernel_rfl) (by kernel_rfl) (fun _ _ _ h => h) (Or.inl ⟨by rfl, fun w hS => by obtain ⟨z0, z1, z2, y0, y1, y2⟩ := hS; go_simp⟩) ⟨z0, z1, z2, y0, y1, y2⟩ ?_
  simp only [List.getElem_toArray, List.getElem_cons_zero, List.getElem_cons_succ, Act.put, List.setIfInBounds_toArray, List.set_cons_zero, List.set_cons_succ]
  refine oneU (i := 8) (by kernel_rfl) rfl (by rfl) ?_
  simp only [List.getElem_toArray, List.getElem_cons_zero, List.getElem_cons_succ]
  go_simp
  refine (HSO.out w4 (belNext HB2.out HB24.out)).mono ?_
  rintro e w5 ⟨rfl, hb5⟩
  have HB25 := hideN (belNext HB24.out hb5)
  obtain ⟨z0, z1, z2, y0, y1, y2⟩ := HC.out w5 HB25.out
  refine ⟨⟨z0, z1, z2, y0, y1, y2⟩, ?_⟩
  clear hb5
  cases hbd : bddB vi ns root with
  | false =>
    refine takeU (i := 9) (v := .bool true) rfl (by rfl) (by kernel_rfl) (by kernel_rfl) (by kernel_rfl) (by kernel_rfl) (by kernel_rfl) (fun _ _ _ h => h) (Or.inl ⟨by rfl, fun w hS => by obtain ⟨z0, z1, z2, y0, y1, y2⟩ := hS; go_simp⟩) ⟨z0, z1, z2, y0, y1, y2⟩ ?_
    simp only [List.getElem_toArray, List.getElem_cons_zero, List.getElem_cons_succ, Act.put, List.setIfInBounds_toArray, List.set_cons_zero, List.set_cons_succ]
    refine takeU (i := 10) (v := .bool true) rfl (by rfl) (by kernel_rfl) (by kernel_rfl) (by kernel_rfl) (by kernel_rfl) (by kernel_rfl) (fun _ _ _ h => h) (Or.inl ⟨by rfl, fun w hS => by obtain ⟨z0, z1, z2, y0, y1, y2⟩ := hS; go_simp⟩) ⟨z0, z1, z2, y0, y1, y2⟩ ?_
    simp only [List.getElem_toArray, List.getElem_cons_zero, List.getElem_cons_succ, Act.put, List.setIfInBounds_toArray, List.set_cons_zero, List.set_cons_succ]
    refine takeU (i := 11) (v := .bool true) rfl (by rfl) (by kernel_rfl) (by kernel_rfl) (by kernel_rfl) (by kernel_rfl) (by kernel_rfl) (fun _ _ _ h => h) (Or.inl ⟨by rfl, fun w hS => by obtain ⟨z0, z1, z2, y0, y1, y2⟩ := hS; go_simp⟩) ⟨z0, z1, z2, y0, y1, y2⟩ ?_
    simp only [List.getElem_toArray, List.getElem_cons_zero, List.getElem_cons_succ, Act.put, List.setIfInBounds_toArray, List.set_cons_zero, List.set_cons_succ]
    refine takeU (i := 12) (v := undef) rfl (by rfl) (by kernel_rfl) (by kernel_rfl) (by kernel_rfl) (by kernel_rfl) (by kernel_rfl) (fun _ _ _ h => h) (Or.inr ⟨by rfl, rfl⟩) ⟨z0, z1, z2, y0, y1, y2⟩ ?_
    simp only [List.getElem_toArray, List.getElem_cons_zero, List.getElem_cons_succ, Act.put, List.setIfInBounds_toArray, List.set_cons_zero, List.set_cons_succ]
    refine takeU (i := 13) (v := undef) rfl (by rfl) (by kernel_rfl) (by kernel_rfl) (by kernel_rfl) (by kernel_rfl) (by kernel_rfl) (fun _ _ _ h => h) (Or.inr ⟨by rfl, rfl⟩) ⟨z0, z1, z2, y0, y1, y2⟩ ?_
    simp only [List.getElem_toArray, List.getElem_cons_zero, List.getElem_cons_succ, Act.put, List.setIfInBounds_toArray, List.set_cons_zero, List.set_cons_succ]
    refine takeU (i := 14) (v := .bool true) rfl (by rfl) (by kernel_rfl) (by kernel_rfl) (by kernel_rfl) (by kernel_rfl) (by kernel_rfl) (fun _ _ _ h => h) (Or.inl ⟨by rfl, fun w hS => by obtain ⟨z0, z1, z2, y0, y1, y2⟩ := hS; go_simp⟩) ⟨z0, z1, z2, y0, y1, y2⟩ ?_
    simp only [List.getElem_toArray, List.getElem_cons_zero, List.getElem_cons_succ, Act.put, List.setIfInBounds_toArray, List.set_cons_zero, List.set_cons_succ]
    refine takeU (i := 15) (v := .bool true) rfl (by rfl) (by kernel_rfl) (by kernel_rfl) (by kernel_rfl) (by kernel_rfl) (by kernel_rfl) (fun _ _ _ h => h) (Or.inl ⟨by rfl, fun w hS => by obtain ⟨z0, z1, z2, y0, y1, y2⟩ := hS; go_simp⟩) ⟨z0, z1, z2, y0, y1, y2⟩ ?_
    simp only [List.getElem_toArray, List.getElem_cons_zero, List.getElem_cons_succ, Act.put, List.setIfInBounds_toArray, List.set_cons_zero, List.set_cons_succ]
    refine takeU (i := 16) (v := undef) rfl (by rfl) (by kernel_rfl) (by kernel_rfl) (by kernel_rfl) (by kernel_rfl) (by kernel_rfl) (fun _ _ _ h => h) (Or.inr ⟨by rfl, rfl⟩) ⟨z0, z1, z2, y0, y1, y2⟩ ?_
    simp only [List.getElem_toArray, List.getElem_cons_zero, List.getElem_cons_succ, Act.put, List.setIfInBounds_toArray, List.set_cons_zero, List.set_cons_succ]
    refine takeU (i := 17) (v := undef) rfl (by rfl) (by kernel_rfl) (by kernel_rfl) (by kernel_rfl) (by kernel_rfl) (by kernel_rfl) (fun _ _ _ h => h) (Or.inr ⟨by rfl, rfl⟩) ⟨z0, z1, z2, y0, y1, y2⟩ ?_
    simp only [List.getElem_toArray, List.getElem_cons_zero, List.getElem_cons_succ, Act.put, List.setIfInBounds_toArray, List.set_cons_zero, List.set_cons_succ]
    refine takeU (i := 18) (v := undef) rfl (by rfl) (by kernel_rfl) (by kernel_rfl) (by kernel_rfl) (by kernel_rfl) (by kernel_rfl) (fun _ _ _ h => h) (Or.inr ⟨by rfl, rfl⟩) ⟨z0, z1, z2, y0, y1, y2⟩ ?_
    simp only [List.getElem_toArray, List.getElem_cons_zero, List.getElem_cons_succ, Act.put, List.setIfInBounds_toArray, List.set_cons_zero, List.set_cons_succ]
    refine takeU (i := 19) (v := undef) rfl (by rfl) (by kernel_rfl) (by kernel_rfl) (by kernel_rfl) (by kernel_rfl) (by kernel_rfl) (fun _ _ _ h => h) (Or.inr ⟨by rfl, rfl⟩) ⟨z0, z1, z2, y0, y1, y2⟩ ?_
    simp only [List.getElem_toArray, List.getElem_cons_zero, List.getElem_cons_succ, Act.put, List.setIfInBounds_toArray, List.set_cons_zero, List.set_cons_succ]
    refine oneU (i := 20) (by kernel_rfl) rfl (by rfl) ?_
    simp only [List.getElem_toArray, List.getElem_cons_zero, List.getElem_cons_succ]
    go_simp
    refine doneU (by kernel_rfl) ?_ _
    clear z0 z1 z2 y0 y1 y2
    go_wp2_with fail
    obtain ⟨z0, z1, z2, y0, y1, y2⟩ := HC.out w5.drew (belNext HB25.out (below_drewN (Below.refl _ _) 1))
    refine region_U (fin := 5) (S := fun V' => V'.cell? ⟨B3, 0, none⟩ = some (.int .i64 vi) ∧ V'.cell? ⟨B3, 1, none⟩ = some (.slice ao n cap) ∧ V'.cell? ⟨B3, 2, none⟩ = some (.int .i64 root) ∧ V'.cell? ⟨B4, 0, none⟩ = some (.int .i64 fv) ∧ V'.cell? ⟨B4, 1, none⟩ = some (.slice a2 m c2') ∧ V'.cell? ⟨B4, 2, none⟩ = some (.int .i64 fr)) (by kernel_rfl) ⟨z0, z1, z2, y0, y1, y2⟩ (fun hHeld => ?_)
    clear hHeld
    refine takeU (i := 0) (v := .agg #[.int .i64 fv, .slice a2 m c2', .int .i64 fr]) rfl (by rfl) (by kernel_rfl) (by kernel_rfl) (reach_one (by kernel_rfl)) (by kernel_rfl) (by kernel_rfl) (fun _ _ _ h => h) (Or.inl ⟨by rfl, fun w hS => by obtain ⟨z0, z1, z2, y0, y1, y2⟩ := hS; go_simp⟩) ⟨z0, z1, z2, y0, y1, y2⟩ ?_
    simp only [List.getElem_toArray, List.getElem_cons_zero, Act.put, List.setIfInBounds_toArray, List.set_cons_zero, List.set_cons_succ]
    refine takeU (i := 1) (v := .agg #[.int .i64 vi, .slice ao n cap, .int .i64 root]) rfl (by rfl) (by kernel_rfl) (by kernel_rfl) (reach_one (by kernel_rfl)) (by kernel_rfl) (by kernel_rfl) (fun _ _ _ h => h) (Or.inl ⟨by rfl, fun w hS => by obtain ⟨z0, z1, z2, y0, y1, y2⟩ := hS; go_simp⟩) ⟨z0, z1, z2, y0, y1, y2⟩ ?_
    simp only [List.getElem_toArray, List.getElem_cons_zero, List.getElem_cons_succ, Act.put, List.setIfInBounds_toArray, List.set_cons_zero, List.set_cons_succ]
    refine takeU (i := 2) (v := .int .i64 u) rfl (by rfl) (by kernel_rfl) (by kernel_rfl) (reach_one (by kernel_rfl)) (by kernel_rfl) (by kernel_rfl) (fun _ _ _ h => h) (Or.inl ⟨by rfl, fun w hS => by obtain ⟨z0, z1, z2, y0, y1, y2⟩ := hS; go_simp⟩) ⟨z0, z1, z2, y0, y1, y2⟩ ?_
    simp only [List.getElem_toArray, List.getElem_cons_zero, List.getElem_cons_succ, Act.put, List.setIfInBounds_toArray, List.set_cons_zero, List.set_cons_succ]
    refine oneU (i := 3) (by kernel_rfl) rfl (by rfl) ?_
    simp only [List.getElem_toArray, List.getElem_cons_zero, List.getElem_cons_succ]
    go_simp
    have hbe := belNext HB25.out (below_drewN (Below.refl w5.heap.size w5) 1)
    refine (HSS.out w5.drew (belNext HB2.out hbe)).mono ?_
    rintro e w6 ⟨a6, m6, c6', rfl, hm6, hr6, hb6⟩
    have HB26 := hideN (belNext hbe hb6)
    have hm64' : m6 ≤ 64 := by have := HFI.out.2; simp only at *; omega
    have HN6 := hideN (nds_of_own hr6 hm6)
    obtain ⟨z0, z1, z2, y0, y1, y2⟩ := HC.out w6 HB26.out
    refine ⟨⟨z0, z1, z2, y0, y1, y2⟩, ?_⟩
    clear hbe hb6 hr6 hm6
    refine oneU (i := 4) (by kernel_rfl) rfl (by rfl) ?_
    simp only [List.getElem_toArray, List.getElem_cons_zero, List.getElem_cons_succ]
    go_simp
    refine (HRG.out w6 HB26.out a6 m6 c6' HN6.out (by omega)).mono ?_
    rintro e w7 ⟨rfl, hb7⟩
    have HBE := hideN (belNext HB1.out (belNext HB2.out (belNext HB26.out hb7)))
    obtain ⟨z0, z1, z2, y0, y1, y2⟩ := HC.out w7 (belNext HB26.out hb7)
    refine ⟨⟨z0, z1, z2, y0, y1, y2⟩, ?_⟩
    clear hb7
    refine oneU (i := 5) (by kernel_rfl) rfl (by rfl) ?_
    simp only [List.getElem_toArray, List.getElem_cons_zero, List.getElem_cons_succ]
    go_simp
    refine doneU (by kernel_rfl) ?_ _
    go_wp2
    go_ret
    exact ⟨rfl, HBE.out⟩
  | true =>
  refine takeU (i := 9) (v := .bool false) rfl (by rfl) (by kernel_rfl) (by kernel_rfl) (by kernel_rfl) (by kernel_rfl) (by kernel_rfl) (fun _ _ _ h => h) (Or.inl ⟨by rfl, fun w hS => by obtain ⟨z0, z1, z2, y0, y1, y2⟩ := hS; go_simp⟩) ⟨z0, z1, z2, y0, y1, y2⟩ ?_
  simp only [List.getElem_toArray, List.getElem_cons_zero, List.getElem_cons_succ, Act.put, List.setIfInBounds_toArray, List.set_cons_zero, List.set_cons_succ]
  refine takeU (i := 10) (v := .bool false) rfl (by rfl) (by kernel_rfl) (by kernel_rfl) (by kernel_rfl) (by kernel_rfl) (by kernel_rfl) (fun _ _ _ h => h) (Or.inl ⟨by rfl, fun w hS => by obtain ⟨z0, z1, z2, y0, y1, y2⟩ := hS; go_simp⟩) ⟨z0, z1, z2, y0, y1, y2⟩ ?_
  simp only [List.getElem_toArray, List.getElem_cons_zero, List.getElem_cons_succ, Act.put, List.setIfInBounds_toArray, List.set_cons_zero, List.set_cons_succ]
  refine takeU (i := 11) (v := .bool false) rfl (by rfl) (by kernel_rfl) (by kernel_rfl) (by kernel_rfl) (by kernel_rfl) (by kernel_rfl) (fun _ _ _ h => h) (Or.inl ⟨by rfl, fun w hS => by obtain ⟨z0, z1, z2, y0, y1, y2⟩ := hS; go_simp⟩) ⟨z0, z1, z2, y0, y1, y2⟩ ?_
  simp only [List.getElem_toArray, List.getElem_cons_zero, List.getElem_cons_succ, Act.put, List.setIfInBounds_toArray, List.set_cons_zero, List.set_cons_succ]
  refine takeU (i := 12) (v := .int .i64 u) rfl (by rfl) (by kernel_rfl) (by kernel_rfl) (by kernel_rfl) (by kernel_rfl) (by kernel_rfl) (fun _ _ _ h => h) (Or.inl ⟨by rfl, fun w hS => by obtain ⟨z0, z1, z2, y0, y1, y2⟩ := hS; go_simp⟩) ⟨z0, z1, z2, y0, y1, y2⟩ ?_
  simp only [List.getElem_toArray, List.getElem_cons_zero, List.getElem_cons_succ, Act.put, List.setIfInBounds_toArray, List.set_cons_zero, List.set_cons_succ]
  by_cases hu0 : u < 0
  · skip
    refine takeU (i := 13) (v := .bool true) rfl (by rfl) (by kernel_rfl) (by kernel_rfl) (by kernel_rfl) (by kernel_rfl) (by kernel_rfl) (fun _ _ _ h => h) (Or.inl ⟨by rfl, fun w hS => by obtain ⟨z0, z1, z2, y0, y1, y2⟩ := hS; go_simp⟩) ⟨z0, z1, z2, y0, y1, y2⟩ ?_
    simp only [List.getElem_toArray, List.getElem_cons_zero, List.getElem_cons_succ, Act.put, List.setIfInBounds_toArray, List.set_cons_zero, List.set_cons_succ]

    refine takeU (i := 14) (v := .bool true) rfl (by rfl) (by kernel_rfl) (by kernel_rfl) (by kernel_rfl) (by kernel_rfl) (by kernel_rfl) (fun _ _ _ h => h) (Or.inl ⟨by rfl, fun w hS => by obtain ⟨z0, z1, z2, y0, y1, y2⟩ := hS; go_simp⟩) ⟨z0, z1, z2, y0, y1, y2⟩ ?_
    simp only [List.getElem_toArray, List.getElem_cons_zero, List.getElem_cons_succ, Act.put, List.setIfInBounds_toArray, List.set_cons_zero, List.set_cons_succ]
    refine takeU (i := 15) (v := .bool true) rfl (by rfl) (by kernel_rfl) (by kernel_rfl) (by kernel_rfl) (by kernel_rfl) (by kernel_rfl) (fun _ _ _ h => h) (Or.inl ⟨by rfl, fun w hS => by obtain ⟨z0, z1, z2, y0, y1, y2⟩ := hS; go_simp⟩) ⟨z0, z1, z2, y0, y1, y2⟩ ?_
    simp only [List.getElem_toArray, List.getElem_cons_zero, List.getElem_cons_succ, Act.put, List.setIfInBounds_toArray, List.set_cons_zero, List.set_cons_succ]
    refine takeU (i := 16) (v := undef) rfl (by rfl) (by kernel_rfl) (by kernel_rfl) (by kernel_rfl) (by kernel_rfl) (by kernel_rfl) (fun _ _ _ h => h) (Or.inr ⟨by rfl, rfl⟩) ⟨z0, z1, z2, y0, y1, y2⟩ ?_
    simp only [List.getElem_toArray, List.getElem_cons_zero, List.getElem_cons_succ, Act.put, List.setIfInBounds_toArray, List.set_cons_zero, List.set_cons_succ]
    refine takeU (i := 17) (v := undef) rfl (by rfl) (by kernel_rfl) (by kernel_rfl) (by kernel_rfl) (by kernel_rfl) (by kernel_rfl) (fun _ _ _ h => h) (Or.inr ⟨by rfl, rfl⟩) ⟨z0, z1, z2, y0, y1, y2⟩ ?_
    simp only [List.getElem_toArray, List.getElem_cons_zero, List.getElem_cons_succ, Act.put, List.setIfInBounds_toArray, List.set_cons_zero, List.set_cons_succ]
    refine takeU (i := 18) (v := undef) rfl (by rfl) (by kernel_rfl) (by kernel_rfl) (by kernel_rfl) (by kernel_rfl) (by kernel_rfl) (fun _ _ _ h => h) (Or.inr ⟨by rfl, rfl⟩) ⟨z0, z1, z2, y0, y1, y2⟩ ?_
    simp only [List.getElem_toArray, List.getElem_cons_zero, List.getElem_cons_succ, Act.put, List.setIfInBounds_toArray, List.set_cons_zero, List.set_cons_succ]
    refine takeU (i := 19) (v := undef) rfl (by rfl) (by kernel_rfl) (by kernel_rfl) (by kernel_rfl) (by kernel_rfl) (by kernel_rfl) (fun _ _ _ h => h) (Or.inr ⟨by rfl, rfl⟩) ⟨z0, z1, z2, y0, y1, y2⟩ ?_
    simp only [List.getElem_toArray, List.getElem_cons_zero, List.getElem_cons_succ, Act.put, List.setIfInBounds_toArray, List.set_cons_zero, List.set_cons_succ]
    refine oneU (i := 20) (by kernel_rfl) rfl (by rfl) ?_
    simp only [List.getElem_toArray, List.getElem_cons_zero, List.getElem_cons_succ]
    go_simp
    refine doneU (by kernel_rfl) ?_ _
    clear z0 z1 z2 y0 y1 y2
    go_wp2_with fail
    obtain ⟨z0, z1, z2, y0, y1, y2⟩ := HC.out w5.drew (belNext HB25.out (below_drewN (Below.refl _ _) 1))
    refine region_U (fin := 5) (S := fun V' => V'.cell? ⟨B3, 0, none⟩ = some (.int .i64 vi) ∧ V'.cell? ⟨B3, 1, none⟩ = some (.slice ao n cap) ∧ V'.cell? ⟨B3, 2, none⟩ = some (.int .i64 root) ∧ V'.cell? ⟨B4, 0, none⟩ = some (.int .i64 fv) ∧ V'.cell? ⟨B4, 1, none⟩ = some (.slice a2 m c2') ∧ V'.cell? ⟨B4, 2, none⟩ = some (.int .i64 fr)) (by kernel_rfl) ⟨z0, z1, z2, y0, y1, y2⟩ (fun hHeld => ?_)
    clear hHeld
    refine takeU (i := 0) (v := .agg #[.int .i64 fv, .slice a2 m c2', .int .i64 fr]) rfl (by rfl) (by kernel_rfl) (by kernel_rfl) (reach_one (by kernel_rfl)) (by kernel_rfl) (by kernel_rfl) (fun _ _ _ h => h) (Or.inl ⟨by rfl, fun w hS => by obtain ⟨z0, z1, z2, y0, y1, y2⟩ := hS; go_simp⟩) ⟨z0, z1, z2, y0, y1, y2⟩ ?_
    simp only [List.getElem_toArray, List.getElem_cons_zero, Act.put, List.setIfInBounds_toArray, List.set_cons_zero, List.set_cons_succ]
    refine takeU (i := 1) (v := .agg #[.int .i64 vi, .slice ao n cap, .int .i64 root]) rfl (by rfl) (by kernel_rfl) (by kernel_rfl) (reach_one (by kernel_rfl)) (by kernel_rfl) (by kernel_rfl) (fun _ _ _ h => h) (Or.inl ⟨by rfl, fun w hS => by obtain ⟨z0, z1, z2, y0, y1, y2⟩ := hS; go_simp⟩) ⟨z0, z1, z2, y0, y1, y2⟩ ?_
    simp only [List.getElem_toArray, List.getElem_cons_zero, List.getElem_cons_succ, Act.put, List.setIfInBounds_toArray, List.set_cons_zero, List.set_cons_succ]
    refine takeU (i := 2) (v := .int .i64 u) rfl (by rfl) (by kernel_rfl) (by kernel_rfl) (reach_one (by kernel_rfl)) (by kernel_rfl) (by kernel_rfl) (fun _ _ _ h => h) (Or.inl ⟨by rfl, fun w hS => by obtain ⟨z0, z1, z2, y0, y1, y2⟩ := hS; go_simp⟩) ⟨z0, z1, z2, y0, y1, y2⟩ ?_
    simp only [List.getElem_toArray, List.getElem_cons_zero, List.getElem_cons_succ, Act.put, List.setIfInBounds_toArray, List.set_cons_zero, List.set_cons_succ]
    refine oneU (i := 3) (by kernel_rfl) rfl (by rfl) ?_
    simp only [List.getElem_toArray, List.getElem_cons_zero, List.getElem_cons_succ]
    go_simp
    have hbe := belNext HB25.out (below_drewN (Below.refl w5.heap.size w5) 1)
    refine (HSS.out w5.drew (belNext HB2.out hbe)).mono ?_
    rintro e w6 ⟨a6, m6, c6', rfl, hm6, hr6, hb6⟩
    have HB26 := hideN (belNext hbe hb6)
    have hm64' : m6 ≤ 64 := by have := HFI.out.2; simp only at *; omega
    have HN6 := hideN (nds_of_own hr6 hm6)
    obtain ⟨z0, z1, z2, y0, y1, y2⟩ := HC.out w6 HB26.out
    refine ⟨⟨z0, z1, z2, y0, y1, y2⟩, ?_⟩
    clear hbe hb6 hr6 hm6
    refine oneU (i := 4) (by kernel_rfl) rfl (by rfl) ?_
    simp only [List.getElem_toArray, List.getElem_cons_zero, List.getElem_cons_succ]
    go_simp
    refine (HRG.out w6 HB26.out a6 m6 c6' HN6.out (by omega)).mono ?_
    rintro e w7 ⟨rfl, hb7⟩
    have HBE := hideN (belNext HB1.out (belNext HB2.out (belNext HB26.out hb7)))
    obtain ⟨z0, z1, z2, y0, y1, y2⟩ := HC.out w7 (belNext HB26.out hb7)
    refine ⟨⟨z0, z1, z2, y0, y1, y2⟩, ?_⟩
    clear hb7
    refine oneU (i := 5) (by kernel_rfl) rfl (by rfl) ?_
    simp only [List.getElem_toArray, List.getElem_cons_zero, List.getElem_cons_succ]
    go_simp
    refine doneU (by kernel_rfl) ?_ _
    go_wp2
    go_ret
    exact ⟨rfl, HBE.out⟩
  refine takeU (i := 13) (v := .bool false) rfl (by rfl) (by kernel_rfl) (by kernel_rfl) (by kernel_rfl) (by kernel_rfl) (by kernel_rfl) (fun _ _ _ h => h) (Or.inl ⟨by rfl, fun w hS => by obtain ⟨z0, z1, z2, y0, y1, y2⟩ := hS; go_simp⟩) ⟨z0, z1, z2, y0, y1, y2⟩ ?_
  simp only [List.getElem_toArray, List.getElem_cons_zero, List.getElem_cons_succ, Act.put, List.setIfInBounds_toArray, List.set_cons_zero, List.set_cons_succ]
  refine takeU (i := 14) (v := .bool false) rfl (by rfl) (by kernel_rfl) (by kernel_rfl) (by kernel_rfl) (by kernel_rfl) (by kernel_rfl) (fun _ _ _ h => h) (Or.inl ⟨by rfl, fun w hS => by obtain ⟨z0, z1, z2, y0, y1, y2⟩ := hS; go_simp⟩) ⟨z0, z1, z2, y0, y1, y2⟩ ?_
  simp only [List.getElem_toArray, List.getElem_cons_zero, List.getElem_cons_succ, Act.put, List.setIfInBounds_toArray, List.set_cons_zero, List.set_cons_succ]
  refine takeU (i := 15) (v := .bool false) rfl (by rfl) (by kernel_rfl) (by kernel_rfl) (by kernel_rfl) (by kernel_rfl) (by kernel_rfl) (fun _ _ _ h => h) (Or.inl ⟨by rfl, fun w hS => by obtain ⟨z0, z1, z2, y0, y1, y2⟩ := hS; go_simp⟩) ⟨z0, z1, z2, y0, y1, y2⟩ ?_
  simp only [List.getElem_toArray, List.getElem_cons_zero, List.getElem_cons_succ, Act.put, List.setIfInBounds_toArray, List.set_cons_zero, List.set_cons_succ]
  refine takeU (i := 16) (v := .int .i64 u) rfl (by rfl) (by kernel_rfl) (by kernel_rfl) (by kernel_rfl) (by kernel_rfl) (by kernel_rfl) (fun _ _ _ h => h) (Or.inl ⟨by rfl, fun w hS => by obtain ⟨z0, z1, z2, y0, y1, y2⟩ := hS; go_simp⟩) ⟨z0, z1, z2, y0, y1, y2⟩ ?_
  simp only [List.getElem_toArray, List.getElem_cons_zero, List.getElem_cons_succ, Act.put, List.setIfInBounds_toArray, List.set_cons_zero, List.set_cons_succ]
  refine takeU (i := 17) (v := .pointer (some ⟨B3, 0, none⟩)) rfl (by rfl) (by kernel_rfl) (by kernel_rfl) (by kernel_rfl) (by kernel_rfl) (by kernel_rfl) (fun _ _ _ h => h) (Or.inl ⟨by rfl, fun w hS => by obtain ⟨z0, z1, z2, y0, y1, y2⟩ := hS; go_simp⟩) ⟨z0, z1, z2, y0, y1, y2⟩ ?_
  simp only [List.getElem_toArray, List.getElem_cons_zero, List.getElem_cons_succ, Act.put, List.setIfInBounds_toArray, List.set_cons_zero, List.set_cons_succ]
  refine takeU (i := 18) (v := .int .i64 vi) rfl (by rfl) (by kernel_rfl) (by kernel_rfl) (by kernel_rfl) (by kernel_rfl) (by kernel_rfl) (fun _ _ _ h => h) (Or.inl ⟨by rfl, fun w hS => by obtain ⟨z0, z1, z2, y0, y1, y2⟩ := hS; go_simp⟩) ⟨z0, z1, z2, y0, y1, y2⟩ ?_
  simp only [List.getElem_toArray, List.getElem_cons_zero, List.getElem_cons_succ, Act.put, List.setIfInBounds_toArray, List.set_cons_zero, List.set_cons_succ]
  by_cases huV : vi ≤ u
  · skip
    refine takeU (i := 19) (v := .bool true) rfl (by rfl) (by kernel_rfl) (by kernel_rfl) (by kernel_rfl) (by kernel_rfl) (by kernel_rfl) (fun _ _ _ h => h) (Or.inl ⟨by rfl, fun w hS => by obtain ⟨z0, z1, z2, y0, y1, y2⟩ := hS; go_simp⟩) ⟨z0, z1, z2, y0, y1, y2⟩ ?_
    simp only [List.getElem_toArray, List.getElem_cons_zero, List.getElem_cons_succ, Act.put, List.setIfInBounds_toArray, List.set_cons_zero, List.set_cons_succ]
    refine oneU (i := 20) (by kernel_rfl) rfl (by rfl) ?_
    simp only [List.getElem_toArray, List.getElem_cons_zero, List.getElem_cons_succ]
    go_simp
    refine doneU (by kernel_rfl) ?_ _
    clear z0 z1 z2 y0 y1 y2
    go_wp2_with fail
    obtain ⟨z0, z1, z2, y0, y1, y2⟩ := HC.out w5.drew (belNext HB25.out (below_drewN (Below.refl _ _) 1))
    refine region_U (fin := 5) (S := fun V' => V'.cell? ⟨B3, 0, none⟩ = some (.int .i64 vi) ∧ V'.cell? ⟨B3, 1, none⟩ = some (.slice ao n cap) ∧ V'.cell? ⟨B3, 2, none⟩ = some (.int .i64 root) ∧ V'.cell? ⟨B4, 0, none⟩ = some (.int .i64 fv) ∧ V'.cell? ⟨B4, 1, none⟩ = some (.slice a2 m c2') ∧ V'.cell? ⟨B4, 2, none⟩ = some (.int .i64 fr)) (by kernel_rfl) ⟨z0, z1, z2, y0, y1, y2⟩ (fun hHeld => ?_)
    clear hHeld
    refine takeU (i := 0) (v := .agg #[.int .i64 fv, .slice a2 m c2', .int .i64 fr]) rfl (by rfl) (by kernel_rfl) (by kernel_rfl) (reach_one (by kernel_rfl)) (by kernel_rfl) (by kernel_rfl) (fun _ _ _ h => h) (Or.inl ⟨by rfl, fun w hS => by obtain ⟨z0, z1, z2, y0, y1, y2⟩ := hS; go_simp⟩) ⟨z0, z1, z2, y0, y1, y2⟩ ?_
    simp only [List.getElem_toArray, List.getElem_cons_zero, Act.put, List.setIfInBounds_toArray, List.set_cons_zero, List.set_cons_succ]
    refine takeU (i := 1) (v := .agg #[.int .i64 vi, .slice ao n cap, .int .i64 root]) rfl (by rfl) (by kernel_rfl) (by kernel_rfl) (reach_one (by kernel_rfl)) (by kernel_rfl) (by kernel_rfl) (fun _ _ _ h => h) (Or.inl ⟨by rfl, fun w hS => by obtain ⟨z0, z1, z2, y0, y1, y2⟩ := hS; go_simp⟩) ⟨z0, z1, z2, y0, y1, y2⟩ ?_
    simp only [List.getElem_toArray, List.getElem_cons_zero, List.getElem_cons_succ, Act.put, List.setIfInBounds_toArray, List.set_cons_zero, List.set_cons_succ]
    refine takeU (i := 2) (v := .int .i64 u) rfl (by rfl) (by kernel_rfl) (by kernel_rfl) (reach_one (by kernel_rfl)) (by kernel_rfl) (by kernel_rfl) (fun _ _ _ h => h) (Or.inl ⟨by rfl, fun w hS => by obtain ⟨z0, z1, z2, y0, y1, y2⟩ := hS; go_simp⟩) ⟨z0, z1, z2, y0, y1, y2⟩ ?_
    simp only [List.getElem_toArray, List.getElem_cons_zero, List.getElem_cons_succ, Act.put, List.setIfInBounds_toArray, List.set_cons_zero, List.set_cons_succ]
    refine oneU (i := 3) (by kernel_rfl) rfl (by rfl) ?_
    simp only [List.getElem_toArray, List.getElem_cons_zero, List.getElem_cons_succ]
    go_simp
    have hbe := belNext HB25.out (below_drewN (Below.refl w5.heap.size w5) 1)
    refine (HSS.out w5.drew (belNext HB2.out hbe)).mono ?_
    rintro e w6 ⟨a6, m6, c6', rfl, hm6, hr6, hb6⟩
    have HB26 := hideN (belNext hbe hb6)
    have hm64' : m6 ≤ 64 := by have := HFI.out.2; simp only at *; omega
    have HN6 := hideN (nds_of_own hr6 hm6)
    obtain ⟨z0, z1, z2, y0, y1, y2⟩ := HC.out w6 HB26.out
    refine ⟨⟨z0, z1, z2, y0, y1, y2⟩, ?_⟩
    clear hbe hb6 hr6 hm6
    refine oneU (i := 4) (by kernel_rfl) rfl (by rfl) ?_
    simp only [List.getElem_toArray, List.getElem_cons_zero, List.getElem_cons_succ]
    go_simp
    refine (HRG.out w6 HB26.out a6 m6 c6' HN6.out (by omega)).mono ?_
    rintro e w7 ⟨rfl, hb7⟩
    have HBE := hideN (belNext HB1.out (belNext HB2.out (belNext HB26.out hb7)))
    obtain ⟨z0, z1, z2, y0, y1, y2⟩ := HC.out w7 (belNext HB26.out hb7)
    refine ⟨⟨z0, z1, z2, y0, y1, y2⟩, ?_⟩
    clear hb7
    refine oneU (i := 5) (by kernel_rfl) rfl (by rfl) ?_
    simp only [List.getElem_toArray, List.getElem_cons_zero, List.getElem_cons_succ]
    go_simp
    refine doneU (by kernel_rfl) ?_ _
    go_wp2
    go_ret
    exact ⟨rfl, HBE.out⟩
  refine takeU (i := 19) (v := .bool false) rfl (by rfl) (by kernel_rfl) (by kernel_rfl) (by kernel_rfl) (by kernel_rfl) (by kernel_rfl) (fun _ _ _ h => h) (Or.inl ⟨by rfl, fun w hS => by obtain ⟨z0, z1, z2, y0, y1, y2⟩ := hS; go_simp⟩) ⟨z0, z1, z2, y0, y1, y2⟩ ?_
  simp only [List.getElem_toArray, List.getElem_cons_zero, List.getElem_cons_succ, Act.put, List.setIfInBounds_toArray, List.set_cons_zero, List.set_cons_succ]
  refine oneU (i := 20) (by kernel_rfl) rfl (by rfl) ?_
  simp only [List.getElem_toArray, List.getElem_cons_zero, List.getElem_cons_succ]
  go_simp
  refine doneU (by kernel_rfl) ?_ _
  clear z0 z1 z2 y0 y1 y2
  obtain ⟨V, rfl, h6, -⟩ := bdd_split hbd
  obtain ⟨uu, rfl⟩ : ∃ uu : Nat, u = (uu : Int) := ⟨u.toNat, by omega⟩
  have huV' : uu < V := by omega
  have hvar : varB (V : Int) (uu : Int) = true := by unfold varB; simp; omega
  have HWT : Hid (∀ so W, Below W1.heap.size W1 W → Calls Try.prog 50 #[.agg #[.int .i64 (V : Int), .slice ao n cap, .int .i64 root], .int .i64 (uu : Int), .bool so] W (BddPost (V : Int) (drawB V 0 (withT (V : Int) ns root (uu : Int) so) []).1 (drawB V 0 (withT (V : Int) ns root (uu : Int) so) []).2 W)) := fun so W hW => by
    have h := HIW.out so W hW
    rw [hbd, hvar] at h
    unfold AnsPost ansOf at h
    rw [Bool.and_self, if_pos rfl, Int.toNat_natCast] at h
    exact h
  have hSF := some_facts h6 hbd huV'
  have hA2 := HA.out
  rw [hbd, hvar] at hA2
  unfold ansOf at hA2
  rw [Bool.and_self, if_pos rfl, Int.toNat_natCast] at hA2
  simp only [Prod.mk.injEq] at hA2
  obtain ⟨e1, e2, e3⟩ := hA2
  rw [e2, e3] at hSF
  subst e1
  have HFT := hideN (draw_fit (t := withT (V : Int) ns root (uu : Int) true) h6)
  have HFF := hideN (draw_fit (t := withT (V : Int) ns root (uu : Int) false) h6)
  have HWTt := hideN (HWT.out true)
  have HWTf := hideN (HWT.out false)
  clear HWT HIW HIS HSS HSO HA e2 e3 hvar
  generalize drawB V 0 (withT (V : Int) ns root (uu : Int) true) [] = DT at *
  generalize drawB V 0 (withT (V : Int) ns root (uu : Int) false) [] = DF at *
  obtain ⟨lT, rT⟩ := DT
  obtain ⟨lF, rF⟩ := DF
  simp only at hSF HFT HFF HWTt HWTf
  have HNX := hideN (fun V' (hV : Below V2.heap.size V2 V') => nds_of_own (row_below HRX.out hV) HM2.out)
  have hl64 : ∀ q ∈ l, I64N q := fun q hq => fit64n (HFI.out.1 q hq)
  have hfr : 0 ≤ fr ∧ fr ≤ 65 := by
    obtain ⟨V', hVV, _, hnn, _, h0, h1⟩ := bdd_split hSF.ok
    exact ⟨h0, by omega⟩
  have hfr64 : I64 fr := by unfold I64; omega
  have hTB : twoB { data := #[38] } (V : Int) l fr (V : Int) ns root = true := by unfold twoB; rw [hbd, hSF.ok, opOf_and]; simp
  have hTB2 : twoB { data := #[124] } (V : Int) lT rT (V : Int) lF rF = true := by unfold twoB; rw [hSF.okT, hSF.okF, opOf_or]; simp
  have HT1 : Hid (∀ V' aT nT cT aF nF cF, Nds V' aT nT cT lT → Nds V' aF nF cF lF → Calls Try.prog 45 #[.string { data := #[124] }, .agg #[.int .i64 (V : Int), .slice aT nT cT, .int .i64 rT], .agg #[.int .i64 (V : Int), .slice aF nF cF, .int .i64 rF]] V' (TwoPost ((V : Int), l, fr) true V')) := fun V' aT nT cT aF nF cF hT hF => by
    have h := implBddTwo_any { data := #[124] } (V : Int) rT (V : Int) rF aT aF nT cT nF cF lT lF V' hT (fun q hq => fit64n (HFT.out.1 q hq)) (by unfold I64; have := HFT.out.2.2; omega) hF (fun q hq => fit64n (HFF.out.1 q hq)) (by unfold I64; have := HFF.out.2.2; omega)
    rw [hTB2] at h
    unfold ansOf twoOp at h
    rw [opOf_or, if_pos rfl, Int.toNat_natCast, Option.getD_some, hSF.either] at h
    exact h
  have HT2 : Hid (∀ V', Below V2.heap.size V2 V' → Calls Try.prog 45 #[.string { data := #[38] }, .agg #[.int .i64 (V : Int), .slice a2 m c2', .int .i64 fr], .agg #[.int .i64 (V : Int), .slice ao n cap, .int .i64 root]] V' (TwoPost ((V : Int), ns, root) true V')) := fun V' hV => by
    have h := implBddTwo_any { data := #[38] } (V : Int) fr (V : Int) root a2 ao m c2' n cap l ns V' (HNX.out V' hV) hl64 hfr64 (HNB.out V' (belNext HB2.out hV)) HI64.out HIR.out
    rw [hTB] at h
    unfold ansOf twoOp at h
    rw [opOf_and, if_pos rfl, Int.toNat_natCast, Option.getD_some, hSF.both] at h
    exact h
  have HND : Hid (∀ V', Below V2.heap.size V2 V' → Calls Try.prog 29 #[.agg #[.int .i64 (V : Int), .slice a2 m c2', .int .i64 fr]] V' (IntsPost (needsL V l) V')) := fun V' hV => by
    have h := implBddNeeds_any (V : Int) fr a2 m c2' l V' (HNX.out V' hV) hl64 hfr64
    unfold needsZ at h
    rw [hSF.ok, if_pos rfl, Int.toNat_natCast] at h
    exact h
  have HFB : Hid (∀ p ∈ ns, FitN p) := by
    obtain ⟨V', hVV, _, hnn, hok, _, _⟩ := bdd_split hbd
    obtain rfl : V' = V := by omega
    exact nodes_fit h6 hnn hok
  have HNLE := hideN (needsL_le V l)
  have HHN := hideN hSF.needs
  have hzero := hSF.zero
  clear hSF hTB hTB2 hl64 hfr hfr64 HI64 HIR
  generalize needsL V l = L at *
  have HN80 := hideN hn80
  have HBH := hideN (HC.out w5 HB25.out)
  go_wp2_with fail
  go_cut [6, 7] (fun s6 s7 wc => ∃ q aw cw, s6 = .pointer (some ⟨q, 0, none⟩) ∧ s7 = .bool true ∧ Hid (BlkD wc q (.int .i64 (V : Int)) (.slice aw m cw) (.int .i64 fr)) ∧ Hid (Nds wc aw m cw l) ∧ Hid (Below w5.heap.size w5 wc) ∧ w5.heap.size ≤ q)
  case first =>
    have hlt3 : B3 < w5.heap.size := cell_lt HBH.out.1
    have hlt4 : B4 < w5.heap.size := cell_lt HBH.out.2.2.2.1
    have hd7 := below_drewN (Below.refl w5.heap.size w5) 1
    obtain ⟨z0, z1, z2, y0, y1, y2⟩ := HC.out w5.drew (belNext HB25.out hd7)
    refine region_U (fin := 12) (S := fun V' => V'.cell? ⟨B3, 0, none⟩ = some (.int .i64 (V : Int)) ∧ V'.cell? ⟨B3, 1, none⟩ = some (.slice ao n cap) ∧ V'.cell? ⟨B3, 2, none⟩ = some (.int .i64 root) ∧ V'.cell? ⟨B4, 0, none⟩ = some (.int .i64 (V : Int)) ∧ V'.cell? ⟨B4, 1, none⟩ = some (.slice a2 m c2') ∧ V'.cell? ⟨B4, 2, none⟩ = some (.int .i64 fr)) (by kernel_rfl) ⟨z0, z1, z2, y0, y1, y2⟩ (fun hHeld => ?_)
    clear hHeld
    refine takeU (i := 0) (v := .agg #[.int .i64 (V : Int), .slice ao n cap, .int .i64 root]) rfl (by rfl) (by kernel_rfl) (by kernel_rfl) (reach_one (by kernel_rfl)) (by kernel_rfl) (by kernel_rfl) (fun _ _ _ h => h) (Or.inl ⟨by rfl, fun w hS => by obtain ⟨z0, z1, z2, y0, y1, y2⟩ := hS; go_simp⟩) ⟨z0, z1, z2, y0, y1, y2⟩ ?_
    simp only [List.getElem_toArray, List.getElem_cons_zero, Act.put, List.setIfInBounds_toArray, List.set_cons_zero, List.set_cons_succ]
    refine takeU (i := 1) (v := .int .i64 (uu : Int)) rfl (by rfl) (by kernel_rfl) (by kernel_rfl) (reach_one (by kernel_rfl)) (by kernel_rfl) (by kernel_rfl) (fun _ _ _ h => h) (Or.inl ⟨by rfl, fun w hS => by obtain ⟨z0, z1, z2, y0, y1, y2⟩ := hS; go_simp⟩) ⟨z0, z1, z2, y0, y1, y2⟩ ?_
    simp only [List.getElem_toArray, List.getElem_cons_zero, List.getElem_cons_succ, Act.put, List.setIfInBounds_toArray, List.set_cons_zero, List.set_cons_succ]
    refine takeU (i := 3) (v := .agg #[.int .i64 (V : Int), .slice ao n cap, .int .i64 root]) rfl (by rfl) (by kernel_rfl) (by kernel_rfl) (reach_one (by kernel_rfl)) (by kernel_rfl) (by kernel_rfl) (fun _ _ _ h => h) (Or.inl ⟨by rfl, fun w hS => by obtain ⟨z0, z1, z2, y0, y1, y2⟩ := hS; go_simp⟩) ⟨z0, z1, z2, y0, y1, y2⟩ ?_
    simp only [List.getElem_toArray, List.getElem_cons_zero, List.getElem_cons_succ, Act.put, List.setIfInBounds_toArray, List.set_cons_zero, List.set_cons_succ]
    refine takeU (i := 4) (v := .int .i64 (uu : Int)) rfl (by rfl) (by kernel_rfl) (by kernel_rfl) (reach_one (by kernel_rfl)) (by kernel_rfl) (by kernel_rfl) (fun _ _ _ h => h) (Or.inl ⟨by rfl, fun w hS => by obtain ⟨z0, z1, z2, y0, y1, y2⟩ := hS; go_simp⟩) ⟨z0, z1, z2, y0, y1, y2⟩ ?_
    simp only [List.getElem_toArray, List.getElem_cons_zero, List.getElem_cons_succ, Act.put, List.setIfInBounds_toArray, List.set_cons_zero, List.set_cons_succ]
    refine twoU (i := 2) (j := 10) (by kernel_rfl) rfl rfl (by rfl) (by rfl) ?_ ?_
    · simp only [List.getElem_toArray, List.getElem_cons_zero, List.getElem_cons_succ]
      go_simp
      refine (HWTt.out w5.drew (belNext HB2.out (belNext HB25.out hd7))).mono ?_
      rintro e Vg1 ⟨ag6, ng7, cg8, rfl, hng4, hrg5, hbg2⟩
      have HPg9 := hideN (nds_of_own hrg5 hng4)
      clear hrg5 hng4
      have hg3 : Below w5.heap.size w5 Vg1 := belNext hd7 hbg2
      obtain ⟨z0, z1, z2, y0, y1, y2⟩ := HC.out Vg1 (belNext HB25.out hg3)
      refine ⟨⟨z0, z1, z2, y0, y1, y2⟩, ?_⟩
      refine twoU (i := 5) (j := 10) (by kernel_rfl) rfl rfl (by rfl) (by rfl) ?_ ?_
      · simp only [List.getElem_toArray, List.getElem_cons_zero, List.getElem_cons_succ]
        go_simp
        refine (HWTf.out Vg1 (belNext HB2.out (belNext HB25.out hg3))).mono ?_
        rintro e Vg10 ⟨ag15, ng16, cg17, rfl, hng13, hrg14, hbg11⟩
        have HPg18 := hideN (HPg9.out.below hbg11)
        have HRg19 := hideN (nds_of_own hrg14 hng13)
        clear hrg14 hng13
        have hg12 : Below w5.heap.size w5 Vg10 := belNext hg3 hbg11
        obtain ⟨z0, z1, z2, y0, y1, y2⟩ := HC.out Vg10 (belNext HB25.out hg12)
        refine ⟨⟨z0, z1, z2, y0, y1, y2⟩, ?_⟩
        refine twoU (i := 6) (j := 10) (by kernel_rfl) rfl rfl (by rfl) (by rfl) ?_ ?_
        · simp only [List.getElem_toArray, List.getElem_cons_zero, List.getElem_cons_succ]
          go_simp
          refine (HT1.out Vg10 ag6 ng7 cg8 ag15 ng16 cg17 HPg18.out HRg19.out).mono ?_
          rintro e Vg20 ⟨ag25, ng26, cg27, rfl, hng23, hrg24, hbg21⟩
          have hng23m : m = ng26 := by rw [← hng23, HM2.out]
          subst hng23m
          have HWg28 := hideN hrg24
          clear hrg24 hng23
          have hg22 : Below w5.heap.size w5 Vg20 := belNext hg12 hbg21
          obtain ⟨z0, z1, z2, y0, y1, y2⟩ := HC.out Vg20 (belNext HB25.out hg22)
          refine ⟨⟨z0, z1, z2, y0, y1, y2⟩, ?_⟩
          refine takeU (i := 7) (v := .tuple #[.agg #[.int .i64 (V : Int), .slice ag25 m cg27, .int .i64 fr], .bool true]) rfl (by rfl) (by kernel_rfl) (by kernel_rfl) (reach_one (by kernel_rfl)) (by kernel_rfl) (by kernel_rfl) (fun _ _ _ h => h) (Or.inl ⟨by rfl, fun w hS => by obtain ⟨z0, z1, z2, y0, y1, y2⟩ := hS; go_simp⟩) ⟨z0, z1, z2, y0, y1, y2⟩ ?_
          simp only [List.getElem_toArray, List.getElem_cons_zero, List.getElem_cons_succ, Act.put, List.setIfInBounds_toArray, List.set_cons_zero, List.set_cons_succ]
          refine takeU (i := 8) (v := .agg #[.int .i64 (V : Int), .slice ag25 m cg27, .int .i64 fr]) rfl (by rfl) (by kernel_rfl) (by kernel_rfl) (reach_one (by kernel_rfl)) (by kernel_rfl) (by kernel_rfl) (fun _ _ _ h => h) (Or.inl ⟨by rfl, fun w hS => by obtain ⟨z0, z1, z2, y0, y1, y2⟩ := hS; go_simp⟩) ⟨z0, z1, z2, y0, y1, y2⟩ ?_
          simp only [List.getElem_toArray, List.getElem_cons_zero, List.getElem_cons_succ, Act.put, List.setIfInBounds_toArray, List.set_cons_zero, List.set_cons_succ]
          refine takeU (i := 9) (v := .bool true) rfl (by rfl) (by kernel_rfl) (by kernel_rfl) (reach_one (by kernel_rfl)) (by kernel_rfl) (by kernel_rfl) (fun _ _ _ h => h) (Or.inl ⟨by rfl, fun w hS => by obtain ⟨z0, z1, z2, y0, y1, y2⟩ := hS; go_simp⟩) ⟨z0, z1, z2, y0, y1, y2⟩ ?_
          simp only [List.getElem_toArray, List.getElem_cons_zero, List.getElem_cons_succ, Act.put, List.setIfInBounds_toArray, List.set_cons_zero, List.set_cons_succ]
          refine oneU (i := 10) (by kernel_rfl) rfl (by rfl) ?_
          simp only [List.getElem_toArray, List.getElem_cons_zero, List.getElem_cons_succ]
          go_simp
          obtain ⟨Vg29, hVg32⟩ : ∃ V', V' = Vg20.alloc (.cells #[.int .i64 0, .slice none 0 0, .int .i64 0] 25) := ⟨_, rfl⟩
          try rw [← hVg32]
          have hbg30 : Below Vg20.heap.size Vg20 Vg29 := by rw [hVg32]; exact belOne _ _
          have HQg35 : Hid (BlkD Vg29 Vg20.heap.size (.int .i64 0) (.slice none 0 0) (.int .i64 0)) := by rw [hVg32]; exact BlkD.new _ _ _ _
          have hqg34 : w5.heap.size ≤ Vg20.heap.size := hg22.size
          have HNEg36 : Hid (∀ k, (Value.slice ag25 m cg27).ownBlock = some k → k ≠ Vg20.heap.size) := fun k e => by have := (World.ownsRow.lt HWg28.out k e).2; omega
          have hg31 : Below w5.heap.size w5 Vg29 := belNext hg22 hbg30
          have HWg37 := hideN (row_below HWg28.out hbg30)
          clear hVg32 hbg30
          generalize Vg20.heap.size = qg33 at *
          obtain ⟨z0, z1, z2, y0, y1, y2⟩ := HC.out Vg29 (belNext HB25.out hg31)
          refine ⟨⟨z0, z1, z2, y0, y1, y2⟩, ?_⟩
          have m0 := HQg35.out.c0
          have m1 := HQg35.out.c1
          have m2 := HQg35.out.c2
          have m3 := HQg35.out.f 0
          have m4 := HQg35.out.f 1
          have m5 := HQg35.out.f 2
          have m6 := HQg35.out.lt
          have HQZ := hideN (HQg35.out.set (.int .i64 (V : Int)) (.slice ag25 m cg27) (.int .i64 fr))
          have HRZ := hideN (nds_of_own (row_base (row_of_block HWg37.out (fun k e => set3_other (.int .i64 (V : Int)) (.slice ag25 m cg27) (.int .i64 fr) (HNEg36.out k e))) (Nat.zero_le _)) HM2.out)
          have HBZ := hideN (set3_below hg31 hqg34 (.int .i64 (V : Int)) (.slice ag25 m cg27) (.int .i64 fr))
          have n1 : B3 ≠ qg33 := by have := hqg34; have := hlt3; omega
          have n2 : qg33 ≠ B3 := by have := hqg34; have := hlt3; omega
          have n3 : B4 ≠ qg33 := by have := hqg34; have := hlt4; omega
          have n4 : qg33 ≠ B4 := by have := hqg34; have := hlt4; omega
          refine oneU (i := 11) (by kernel_rfl) rfl (by rfl) ?_
          simp only [List.getElem_toArray, List.getElem_cons_zero, List.getElem_cons_succ]
          go_simp
          refine oneU (i := 12) (by kernel_rfl) rfl (by rfl) ?_
          simp only [List.getElem_toArray, List.getElem_cons_zero, List.getElem_cons_succ]
          go_simp
          refine doneU (by kernel_rfl) ?_ _
          go_wp2_with fail
          go_meet
          case rel => exact ⟨qg33, ag25, cg27, rfl, rfl, HQZ, HRZ, HBZ, hqg34⟩
        · simp only [List.getElem_toArray, List.getElem_cons_zero, List.getElem_cons_succ]
          go_simp
          obtain ⟨Vg38, hVg41⟩ : ∃ V', V' = Vg10.alloc (.cells #[.int .i64 0, .slice none 0 0, .int .i64 0] 25) := ⟨_, rfl⟩
          try rw [← hVg41]
          have hbg39 : Below Vg10.heap.size Vg10 Vg38 := by rw [hVg41]; exact belOne _ _
          have HQg44 : Hid (BlkD Vg38 Vg10.heap.size (.int .i64 0) (.slice none 0 0) (.int .i64 0)) := by rw [hVg41]; exact BlkD.new _ _ _ _
          have hqg43 : w5.heap.size ≤ Vg10.heap.size := hg12.size
          have hg40 : Below w5.heap.size w5 Vg38 := belNext hg12 hbg39
          have HPg45 := hideN (HPg18.out.below hbg39)
          have HRg46 := hideN (HRg19.out.below hbg39)
          clear hVg41 hbg39
          generalize Vg10.heap.size = qg42 at *
          obtain ⟨z0, z1, z2, y0, y1, y2⟩ := HC.out Vg38 (belNext HB25.out hg40)
          refine ⟨⟨z0, z1, z2, y0, y1, y2⟩, ?_⟩
          refine oneU (i := 6) (by kernel_rfl) rfl (by rfl) ?_
          simp only [List.getElem_toArray, List.getElem_cons_zero, List.getElem_cons_succ]
          go_simp
          refine (HT1.out Vg38 ag6 ng7 cg8 ag15 ng16 cg17 HPg45.out HRg46.out).mono ?_
          rintro e Vg47 ⟨ag52, ng53, cg54, rfl, hng50, hrg51, hbg48⟩
          have hng50m : m = ng53 := by rw [← hng50, HM2.out]
          subst hng50m
          have HNEg55 : Hid (∀ k, (Value.slice ag52 m cg54).ownBlock = some k → k ≠ qg42) := fun k e => by have := (World.ownsRow.lt hrg51 k e).1; have := HQg44.out.lt; omega
          have HQg56 := hideN (HQg44.out.below hbg48)
          have HWg57 := hideN hrg51
          clear hrg51 hng50
          have hg49 : Below w5.heap.size w5 Vg47 := belNext hg40 hbg48
          obtain ⟨z0, z1, z2, y0, y1, y2⟩ := HC.out Vg47 (belNext HB25.out hg49)
          refine ⟨⟨z0, z1, z2, y0, y1, y2⟩, ?_⟩
          refine takeU (i := 7) (v := .tuple #[.agg #[.int .i64 (V : Int), .slice ag52 m cg54, .int .i64 fr], .bool true]) rfl (by rfl) (by kernel_rfl) (by kernel_rfl) (reach_one (by kernel_rfl)) (by kernel_rfl) (by kernel_rfl) (fun _ _ _ h => h) (Or.inl ⟨by rfl, fun w hS => by obtain ⟨z0, z1, z2, y0, y1, y2⟩ := hS; go_simp⟩) ⟨z0, z1, z2, y0, y1, y2⟩ ?_
          simp only [List.getElem_toArray, List.getElem_cons_zero, List.getElem_cons_succ, Act.put, List.setIfInBounds_toArray, List.set_cons_zero, List.set_cons_succ]
          refine takeU (i := 8) (v := .agg #[.int .i64 (V : Int), .slice ag52 m cg54, .int .i64 fr]) rfl (by rfl) (by kernel_rfl) (by kernel_rfl) (reach_one (by kernel_rfl)) (by kernel_rfl) (by kernel_rfl) (fun _ _ _ h => h) (Or.inl ⟨by rfl, fun w hS => by obtain ⟨z0, z1, z2, y0, y1, y2⟩ := hS; go_simp⟩) ⟨z0, z1, z2, y0, y1, y2⟩ ?_
          simp only [List.getElem_toArray, List.getElem_cons_zero, List.getElem_cons_succ, Act.put, List.setIfInBounds_toArray, List.set_cons_zero, List.set_cons_succ]
          refine takeU (i := 9) (v := .bool true) rfl (by rfl) (by kernel_rfl) (by kernel_rfl) (reach_one (by kernel_rfl)) (by kernel_rfl) (by kernel_rfl) (fun _ _ _ h => h) (Or.inl ⟨by rfl, fun w hS => by obtain ⟨z0, z1, z2, y0, y1, y2⟩ := hS; go_simp⟩) ⟨z0, z1, z2, y0, y1, y2⟩ ?_
          simp only [List.getElem_toArray, List.getElem_cons_zero, List.getElem_cons_succ, Act.put, List.setIfInBounds_toArray, List.set_cons_zero, List.set_cons_succ]
          have m0 := HQg56.out.c0
          have m1 := HQg56.out.c1
          have m2 := HQg56.out.c2
          have m3 := HQg56.out.f 0
          have m4 := HQg56.out.f 1
          have m5 := HQg56.out.f 2
          have m6 := HQg56.out.lt
          have HQZ := hideN (HQg56.out.set (.int .i64 (V : Int)) (.slice ag52 m cg54) (.int .i64 fr))
          have HRZ := hideN (nds_of_own (row_base (row_of_block HWg57.out (fun k e => set3_other (.int .i64 (V : Int)) (.slice ag52 m cg54) (.int .i64 fr) (HNEg55.out k e))) (Nat.zero_le _)) HM2.out)
          have HBZ := hideN (set3_below hg49 hqg43 (.int .i64 (V : Int)) (.slice ag52 m cg54) (.int .i64 fr))
          have n1 : B3 ≠ qg42 := by have := hqg43; have := hlt3; omega
          have n2 : qg42 ≠ B3 := by have := hqg43; have := hlt3; omega
          have n3 : B4 ≠ qg42 := by have := hqg43; have := hlt4; omega
          have n4 : qg42 ≠ B4 := by have := hqg43; have := hlt4; omega
          refine oneU (i := 11) (by kernel_rfl) rfl (by rfl) ?_
          simp only [List.getElem_toArray, List.getElem_cons_zero, List.getElem_cons_succ]
          go_simp
          refine oneU (i := 12) (by kernel_rfl) rfl (by rfl) ?_
          simp only [List.getElem_toArray, List.getElem_cons_zero, List.getElem_cons_succ]
          go_simp
          refine doneU (by kernel_rfl) ?_ _
          go_wp2_with fail
          go_meet
          case rel => exact ⟨qg42, ag52, cg54, rfl, rfl, HQZ, HRZ, HBZ, hqg43⟩
      · simp only [List.getElem_toArray, List.getElem_cons_zero, List.getElem_cons_succ]
        go_simp
        obtain ⟨Vg58, hVg61⟩ : ∃ V', V' = Vg1.alloc (.cells #[.int .i64 0, .slice none 0 0, .int .i64 0] 25) := ⟨_, rfl⟩
        try rw [← hVg61]
        have hbg59 : Below Vg1.heap.size Vg1 Vg58 := by rw [hVg61]; exact belOne _ _
        have HQg64 : Hid (BlkD Vg58 Vg1.heap.size (.int .i64 0) (.slice none 0 0) (.int .i64 0)) := by rw [hVg61]; exact BlkD.new _ _ _ _
        have hqg63 : w5.heap.size ≤ Vg1.heap.size := hg3.size
        have hg60 : Below w5.heap.size w5 Vg58 := belNext hg3 hbg59
        have HPg65 := hideN (HPg9.out.below hbg59)
        clear hVg61 hbg59
        generalize Vg1.heap.size = qg62 at *
        obtain ⟨z0, z1, z2, y0, y1, y2⟩ := HC.out Vg58 (belNext HB25.out hg60)
        refine ⟨⟨z0, z1, z2, y0, y1, y2⟩, ?_⟩
        refine oneU (i := 5) (by kernel_rfl) rfl (by rfl) ?_
        simp only [List.getElem_toArray, List.getElem_cons_zero, List.getElem_cons_succ]
        go_simp
        refine (HWTf.out Vg58 (belNext HB2.out (belNext HB25.out hg60))).mono ?_
        rintro e Vg66 ⟨ag71, ng72, cg73, rfl, hng69, hrg70, hbg67⟩
        have HPg74 := hideN (HPg65.out.below hbg67)
        have HQg75 := hideN (HQg64.out.below hbg67)
        have HRg76 := hideN (nds_of_own hrg70 hng69)
        clear hrg70 hng69
        have hg68 : Below w5.heap.size w5 Vg66 := belNext hg60 hbg67
        obtain ⟨z0, z1, z2, y0, y1, y2⟩ := HC.out Vg66 (belNext HB25.out hg68)
        refine ⟨⟨z0, z1, z2, y0, y1, y2⟩, ?_⟩
        refine oneU (i := 6) (by kernel_rfl) rfl (by rfl) ?_
        simp only [List.getElem_toArray, List.getElem_cons_zero, List.getElem_cons_succ]
        go_simp
        refine (HT1.out Vg66 ag6 ng7 cg8 ag71 ng72 cg73 HPg74.out HRg76.out).mono ?_
        rintro e Vg77 ⟨ag82, ng83, cg84, rfl, hng80, hrg81, hbg78⟩
        have hng80m : m = ng83 := by rw [← hng80, HM2.out]
        subst hng80m
        have HNEg85 : Hid (∀ k, (Value.slice ag82 m cg84).ownBlock = some k → k ≠ qg62) := fun k e => by have := (World.ownsRow.lt hrg81 k e).1; have := HQg75.out.lt; omega
        have HQg86 := hideN (HQg75.out.below hbg78)
        have HWg87 := hideN hrg81
        clear hrg81 hng80
        have hg79 : Below w5.heap.size w5 Vg77 := belNext hg68 hbg78
        obtain ⟨z0, z1, z2, y0, y1, y2⟩ := HC.out Vg77 (belNext HB25.out hg79)
        refine ⟨⟨z0, z1, z2, y0, y1, y2⟩, ?_⟩
        refine takeU (i := 7) (v := .tuple #[.agg #[.int .i64 (V : Int), .slice ag82 m cg84, .int .i64 fr], .bool true]) rfl (by rfl) (by kernel_rfl) (by kernel_rfl) (reach_one (by kernel_rfl)) (by kernel_rfl) (by kernel_rfl) (fun _ _ _ h => h) (Or.inl ⟨by rfl, fun w hS => by obtain ⟨z0, z1, z2, y0, y1, y2⟩ := hS; go_simp⟩) ⟨z0, z1, z2, y0, y1, y2⟩ ?_
        simp only [List.getElem_toArray, List.getElem_cons_zero, List.getElem_cons_succ, Act.put, List.setIfInBounds_toArray, List.set_cons_zero, List.set_cons_succ]
        refine takeU (i := 8) (v := .agg #[.int .i64 (V : Int), .slice ag82 m cg84, .int .i64 fr]) rfl (by rfl) (by kernel_rfl) (by kernel_rfl) (reach_one (by kernel_rfl)) (by kernel_rfl) (by kernel_rfl) (fun _ _ _ h => h) (Or.inl ⟨by rfl, fun w hS => by obtain ⟨z0, z1, z2, y0, y1, y2⟩ := hS; go_simp⟩) ⟨z0, z1, z2, y0, y1, y2⟩ ?_
        simp only [List.getElem_toArray, List.getElem_cons_zero, List.getElem_cons_succ, Act.put, List.setIfInBounds_toArray, List.set_cons_zero, List.set_cons_succ]
        refine takeU (i := 9) (v := .bool true) rfl (by rfl) (by kernel_rfl) (by kernel_rfl) (reach_one (by kernel_rfl)) (by kernel_rfl) (by kernel_rfl) (fun _ _ _ h => h) (Or.inl ⟨by rfl, fun w hS => by obtain ⟨z0, z1, z2, y0, y1, y2⟩ := hS; go_simp⟩) ⟨z0, z1, z2, y0, y1, y2⟩ ?_
        simp only [List.getElem_toArray, List.getElem_cons_zero, List.getElem_cons_succ, Act.put, List.setIfInBounds_toArray, List.set_cons_zero, List.set_cons_succ]
        have m0 := HQg86.out.c0
        have m1 := HQg86.out.c1
        have m2 := HQg86.out.c2
        have m3 := HQg86.out.f 0
        have m4 := HQg86.out.f 1
        have m5 := HQg86.out.f 2
        have m6 := HQg86.out.lt
        have HQZ := hideN (HQg86.out.set (.int .i64 (V : Int)) (.slice ag82 m cg84) (.int .i64 fr))
        have HRZ := hideN (nds_of_own (row_base (row_of_block HWg87.out (fun k e => set3_other (.int .i64 (V : Int)) (.slice ag82 m cg84) (.int .i64 fr) (HNEg85.out k e))) (Nat.zero_le _)) HM2.out)
        have HBZ := hideN (set3_below hg79 hqg63 (.int .i64 (V : Int)) (.slice ag82 m cg84) (.int .i64 fr))
        have n1 : B3 ≠ qg62 := by have := hqg63; have := hlt3; omega
        have n2 : qg62 ≠ B3 := by have := hqg63; have := hlt3; omega
        have n3 : B4 ≠ qg62 := by have := hqg63; have := hlt4; omega
        have n4 : qg62 ≠ B4 := by have := hqg63; have := hlt4; omega
        refine oneU (i := 11) (by kernel_rfl) rfl (by rfl) ?_
        simp only [List.getElem_toArray, List.getElem_cons_zero, List.getElem_cons_succ]
        go_simp
        refine oneU (i := 12) (by kernel_rfl) rfl (by rfl) ?_
        simp only [List.getElem_toArray, List.getElem_cons_zero, List.getElem_cons_succ]
        go_simp
        refine doneU (by kernel_rfl) ?_ _
        go_wp2_with fail
        go_meet
        case rel => exact ⟨qg62, ag82, cg84, rfl, rfl, HQZ, HRZ, HBZ, hqg63⟩
    · simp only [List.getElem_toArray, List.getElem_cons_zero, List.getElem_cons_succ]
      go_simp
      obtain ⟨Vg88, hVg91⟩ : ∃ V', V' = (w5.alloc (.cells #[.int .i64 0, .slice none 0 0, .int .i64 0] 25)).drew := ⟨_, rfl⟩
      try rw [← hVg91]
      have hg90 : Below w5.heap.size w5 Vg88 := by rw [hVg91]; exact belNext (belOne _ _) (below_drewN (Below.refl _ _) 1)
      have HQg94 : Hid (BlkD Vg88 w5.heap.size (.int .i64 0) (.slice none 0 0) (.int .i64 0)) := by rw [hVg91]; exact BlkD.new w5 _ _ _
      have hqg93 : w5.heap.size ≤ w5.heap.size := Nat.le_refl _
      clear hVg91
      obtain ⟨z0, z1, z2, y0, y1, y2⟩ := HC.out w5 HB25.out
      refine ⟨⟨z0, z1, z2, y0, y1, y2⟩, ?_⟩
      obtain ⟨z0, z1, z2, y0, y1, y2⟩ := HC.out Vg88 (belNext HB25.out hg90)
      refine oneU (i := 2) (by kernel_rfl) rfl (by rfl) ?_
      simp only [List.getElem_toArray, List.getElem_cons_zero, List.getElem_cons_succ]
      go_simp
      refine (HWTt.out Vg88 (belNext HB2.out (belNext HB25.out hg90))).mono ?_
      rintro e Vg95 ⟨ag100, ng101, cg102, rfl, hng98, hrg99, hbg96⟩
      have HQg103 := hideN (HQg94.out.below hbg96)
      have HPg104 := hideN (nds_of_own hrg99 hng98)
      clear hrg99 hng98
      have hg97 : Below w5.heap.size w5 Vg95 := belNext hg90 hbg96
      obtain ⟨z0, z1, z2, y0, y1, y2⟩ := HC.out Vg95 (belNext HB25.out hg97)
      refine ⟨⟨z0, z1, z2, y0, y1, y2⟩, ?_⟩
      refine oneU (i := 5) (by kernel_rfl) rfl (by rfl) ?_
      simp only [List.getElem_toArray, List.getElem_cons_zero, List.getElem_cons_succ]
      go_simp
      refine (HWTf.out Vg95 (belNext HB2.out (belNext HB25.out hg97))).mono ?_
      rintro e Vg105 ⟨ag110, ng111, cg112, rfl, hng108, hrg109, hbg106⟩
      have HPg113 := hideN (HPg104.out.below hbg106)
      have HQg114 := hideN (HQg103.out.below hbg106)
      have HRg115 := hideN (nds_of_own hrg109 hng108)
      clear hrg109 hng108
      have hg107 : Below w5.heap.size w5 Vg105 := belNext hg97 hbg106
      obtain ⟨z0, z1, z2, y0, y1, y2⟩ := HC.out Vg105 (belNext HB25.out hg107)
      refine ⟨⟨z0, z1, z2, y0, y1, y2⟩, ?_⟩
      refine oneU (i := 6) (by kernel_rfl) rfl (by rfl) ?_
      simp only [List.getElem_toArray, List.getElem_cons_zero, List.getElem_cons_succ]
      go_simp
      refine (HT1.out Vg105 ag100 ng101 cg102 ag110 ng111 cg112 HPg113.out HRg115.out).mono ?_
      rintro e Vg116 ⟨ag121, ng122, cg123, rfl, hng119, hrg120, hbg117⟩
      have hng119m : m = ng122 := by rw [← hng119, HM2.out]
      subst hng119m
      have HNEg124 : Hid (∀ k, (Value.slice ag121 m cg123).ownBlock = some k → k ≠ w5.heap.size) := fun k e => by have := (World.ownsRow.lt hrg120 k e).1; have := HQg114.out.lt; omega
      have HQg125 := hideN (HQg114.out.below hbg117)
      have HWg126 := hideN hrg120
      clear hrg120 hng119
      have hg118 : Below w5.heap.size w5 Vg116 := belNext hg107 hbg117
      obtain ⟨z0, z1, z2, y0, y1, y2⟩ := HC.out Vg116 (belNext HB25.out hg118)
      refine ⟨⟨z0, z1, z2, y0, y1, y2⟩, ?_⟩
      refine takeU (i := 7) (v := .tuple #[.agg #[.int .i64 (V : Int), .slice ag121 m cg123, .int .i64 fr], .bool true]) rfl (by rfl) (by kernel_rfl) (by kernel_rfl) (reach_one (by kernel_rfl)) (by kernel_rfl) (by kernel_rfl) (fun _ _ _ h => h) (Or.inl ⟨by rfl, fun w hS => by obtain ⟨z0, z1, z2, y0, y1, y2⟩ := hS; go_simp⟩) ⟨z0, z1, z2, y0, y1, y2⟩ ?_
      simp only [List.getElem_toArray, List.getElem_cons_zero, List.getElem_cons_succ, Act.put, List.setIfInBounds_toArray, List.set_cons_zero, List.set_cons_succ]
      refine takeU (i := 8) (v := .agg #[.int .i64 (V : Int), .slice ag121 m cg123, .int .i64 fr]) rfl (by rfl) (by kernel_rfl) (by kernel_rfl) (reach_one (by kernel_rfl)) (by kernel_rfl) (by kernel_rfl) (fun _ _ _ h => h) (Or.inl ⟨by rfl, fun w hS => by obtain ⟨z0, z1, z2, y0, y1, y2⟩ := hS; go_simp⟩) ⟨z0, z1, z2, y0, y1, y2⟩ ?_
      simp only [List.getElem_toArray, List.getElem_cons_zero, List.getElem_cons_succ, Act.put, List.setIfInBounds_toArray, List.set_cons_zero, List.set_cons_succ]
      refine takeU (i := 9) (v := .bool true) rfl (by rfl) (by kernel_rfl) (by kernel_rfl) (reach_one (by kernel_rfl)) (by kernel_rfl) (by kernel_rfl) (fun _ _ _ h => h) (Or.inl ⟨by rfl, fun w hS => by obtain ⟨z0, z1, z2, y0, y1, y2⟩ := hS; go_simp⟩) ⟨z0, z1, z2, y0, y1, y2⟩ ?_
      simp only [List.getElem_toArray, List.getElem_cons_zero, List.getElem_cons_succ, Act.put, List.setIfInBounds_toArray, List.set_cons_zero, List.set_cons_succ]
      have m0 := HQg125.out.c0
      have m1 := HQg125.out.c1
      have m2 := HQg125.out.c2
      have m3 := HQg125.out.f 0
      have m4 := HQg125.out.f 1
      have m5 := HQg125.out.f 2
      have m6 := HQg125.out.lt
      have HQZ := hideN (HQg125.out.set (.int .i64 (V : Int)) (.slice ag121 m cg123) (.int .i64 fr))
      have HRZ := hideN (nds_of_own (row_base (row_of_block HWg126.out (fun k e => set3_other (.int .i64 (V : Int)) (.slice ag121 m cg123) (.int .i64 fr) (HNEg124.out k e))) (Nat.zero_le _)) HM2.out)
      have HBZ := hideN (set3_below hg118 hqg93 (.int .i64 (V : Int)) (.slice ag121 m cg123) (.int .i64 fr))
      have n1 : B3 ≠ w5.heap.size := by have := hqg93; have := hlt3; omega
      have n2 : w5.heap.size ≠ B3 := by have := hqg93; have := hlt3; omega
      have n3 : B4 ≠ w5.heap.size := by have := hqg93; have := hlt4; omega
      have n4 : w5.heap.size ≠ B4 := by have := hqg93; have := hlt4; omega
      refine oneU (i := 11) (by kernel_rfl) rfl (by rfl) ?_
      simp only [List.getElem_toArray, List.getElem_cons_zero, List.getElem_cons_succ]
      go_simp
      refine oneU (i := 12) (by kernel_rfl) rfl (by rfl) ?_
      simp only [List.getElem_toArray, List.getElem_cons_zero, List.getElem_cons_succ]
      go_simp
      refine doneU (by kernel_rfl) ?_ _
      go_wp2_with fail
      go_meet
      case rel => exact ⟨w5.heap.size, ag121, cg123, rfl, rfl, HQZ, HRZ, HBZ, hqg93⟩
  case rest =>
    rename World => w7
    obtain ⟨q, aw, cw, rfl, rfl, HBW, HNW, HB57, hq⟩ := hcut
    clear HT1 HWTt HWTf HFT HFF HBH
    have HB27 := hideN (belNext HB25.out HB57.out)
    have hlt3 : B3 < w7.heap.size := cell_lt (HC.out w7 HB27.out).1
    have hlt4 : B4 < w7.heap.size := cell_lt (HC.out w7 HB27.out).2.2.2.1
    obtain ⟨z0, z1, z2, y0, y1, y2⟩ := HC.out w7 HB27.out
    have p0 := HBW.out.c0
    have p1 := HBW.out.c1
    have p2 := HBW.out.c2
    have p3 := HBW.out.lt
    clear hq
    go_wp2_with fail
    refine (HT2.out w7 HB27.out).mono ?_
    rintro e w8 ⟨a8, n8, c8, rfl, hn8, hr8, hb8⟩
    have hn8m : n = n8 := by rw [← hn8, HNL.out]
    subst hn8m
    have HB28 := hideN (belNext HB27.out hb8)
    obtain ⟨V8, hV8⟩ : ∃ V8, V8 = w8.alloc (.cells #[.int .i64 (V : Int), .slice a8 n c8, .int .i64 root] 25) := ⟨_, rfl⟩
    have hb88 : Below w8.heap.size w8 V8 := by rw [hV8]; exact belOne _ _
    have HQ8 : Hid (BlkD V8 w8.heap.size (.int .i64 (V : Int)) (.slice a8 n c8) (.int .i64 root)) := by rw [hV8]; exact BlkD.new _ _ _ _
    have HB2V := hideN (belNext HB28.out hb88)
    have HBWV := hideN ((HBW.out.below hb8).below hb88)
    have HNWV := hideN ((HNW.out.below hb8).below hb88)
    have HN8 := hideN (nds_of_own (row_below hr8 hb88) hn8)
    have hBW8 := HBW.out.below hb8
    have HV8 := hideN hV8
    clear z0 z1 z2 y0 y1 y2 p0 p1 p2 p3 hlt3 hlt4 hb8 hb88 hr8 hn8 hV8
    obtain ⟨z0, z1, z2, y0, y1, y2⟩ := HC.out w8 HB28.out
    have hlt3 : B3 < w8.heap.size := cell_lt z0
    have hlt4 : B4 < w8.heap.size := cell_lt y0
    have p0 := hBW8.c0
    have p1 := hBW8.c1
    have p2 := hBW8.c2
    have p3 := hBW8.lt
    clear hBW8
    go_wp2_with fail
    try rw [← HV8.out]
    clear z0 z1 z2 y0 y1 y2 p0 p1 p2 p3 hlt3 hlt4
    obtain ⟨q8, hq8⟩ : ∃ q8, w8.heap.size = q8 := ⟨_, rfl⟩
    rw [hq8] at HQ8 ⊢
    have HD : Hid (∀ V', Below V8.heap.size V8 V' → V'.cell? ⟨B3, 0, none⟩ = some (.int .i64 (V : Int)) ∧ V'.cell? ⟨B3, 1, none⟩ = some (.slice ao n cap) ∧ V'.cell? ⟨B3, 2, none⟩ = some (.int .i64 root) ∧ V'.cell? ⟨B4, 0, none⟩ = some (.int .i64 (V : Int)) ∧ V'.cell? ⟨B4, 1, none⟩ = some (.slice a2 m c2') ∧ V'.cell? ⟨B4, 2, none⟩ = some (.int .i64 fr) ∧ V'.cell? ⟨q, 0, none⟩ = some (.int .i64 (V : Int)) ∧ V'.cell? ⟨q, 1, none⟩ = some (.slice aw m cw) ∧ V'.cell? ⟨q, 2, none⟩ = some (.int .i64 fr) ∧ V'.cell? ⟨q8, 0, none⟩ = some (.int .i64 (V : Int)) ∧ V'.cell? ⟨q8, 1, none⟩ = some (.slice a8 n c8) ∧ V'.cell? ⟨q8, 2, none⟩ = some (.int .i64 root)) := fun V' hV => by
      obtain ⟨z0, z1, z2, y0, y1, y2⟩ := HC.out V' (belNext HB2V.out hV)
      exact ⟨z0, z1, z2, y0, y1, y2, (HBWV.out.below hV).c0, (HBWV.out.below hV).c1, (HBWV.out.below hV).c2, (HQ8.out.below hV).c0, (HQ8.out.below hV).c1, (HQ8.out.below hV).c2⟩
    refine (rgBdd_any (V : Int) fr fr aw a2 m m cw c2' l l V8 HNWV.out (HNX.out V8 HB2V.out) HFI.out.1 HFI.out.1 (by omega) (by omega)).mono ?_
    rintro e w9 ⟨rfl, hb9⟩
    have hdec : (decide (fr = fr) && decide (l = l)) = true := by simp
    rw [hdec]
    have HB89 := hideN hb9
    obtain ⟨z0, z1, z2, y0, y1, y2, q0, q1, q2, r0, r1, r2⟩ := HD.out w9 HB89.out
    clear hb9 hdec
    go_wp2_with fail
    refine (rgBdd_any (V : Int) root root a8 ao n n c8 cap ns ns w9 (HN8.out.below HB89.out) (HNB.out w9 (belNext HB2.out (belNext HB2V.out HB89.out))) HFB.out HFB.out (by have := HN80.out; omega) (by have := HN80.out; omega)).mono ?_
    rintro e w10 ⟨rfl, hb10⟩
    have hdec : (decide (root = root) && decide (ns = ns)) = true := by simp
    rw [hdec]
    have HB810 := hideN (belNext HB89.out hb10)
    clear z0  z1  z2  y0  y1  y2  q0  q1  q2  r0  r1  r2
    obtain ⟨z0, z1, z2, y0, y1, y2, q0, q1, q2, r0, r1, r2⟩ := HD.out w10 HB810.out
    clear hb10 hdec
    have hzb : (fr == 0) = (root == 0) := hzero
    clear hzero
    go_wp2_with fail
    refine (HND.out w10 (belNext HB2V.out HB810.out)).mono ?_
    rintro e w11 ⟨a11, c11, rfl, ho11, hb11⟩
    have HB811 := hideN (belNext HB810.out hb11)
    clear hb11 z0  z1  z2  y0  y1  y2  q0  q1  q2  r0  r1  r2
    go_wp2_with fail
    refine (rgHas_any (.slice a11 L.length c11) L (uu : Int) w11 ho11.isInts (by have := HNLE.out; omega)).mono ?_
    rintro e w12 ⟨rfl, rfl⟩
    rw [HHN.out]
    have HBE := hideN (belNext HB1.out (belNext HB2.out (belNext HB2V.out HB811.out)))
    go_wp2_with fail
    go_ret
    exact ⟨rfl, HBE.out⟩

set_option maxRecDepth 100000 in
theorem fnBddSome_lifted (os : Os) (started : os.Started) (H : Type) (enc : TypeId × Value → H) :
    ReturnsInHanded {} Try.checked os 11 .any (Rows.fnBddSomeSpec.pre6 enc Try.prog Try.f11 Rows.fnBddSomeRow.domain false) (Rows.fnBddSomeSpec.post enc Try.prog Try.f11 false true false false) := by
  refine returnsInHanded_of_change (C := Try.checked) own started (by kernel_rfl) Try.func11
    (ChangeSpec.witness6 (enc := enc) (C := Try.checked) false ⟨#[], #[.slice none 0 0], []⟩ 8 (by kernel_rfl) (by kernel_rfl) (by kernel_rfl) (by kernel_rfl)) ?_
  intro W base args ds gs before hval0 hW hcnd _
  have hval : ∀ (j : Nat) t v, Try.f11.params[j]? = some t → args[j]? = some v → Value.okWide Try.prog W .any base t v := hval0
  have hW' := hW
  obtain ⟨p, q, hA0, hV, rfl, hfz, hnd⟩ := hW
  have hA : DataW.TrodAll enc Try.prog W 0 (fun _ => true) true Try.f11.params.toList args.toList ds p := hA0
  rw [Try.params11] at hA hval
  obtain ⟨v0, vs0, d0, ds0, p0, q0, hargs, rfl, rfl, h0, r0⟩ := trodAll_cons hA
  obtain ⟨rfl, rfl, rfl⟩ := trodAll_nil r0
  obtain rfl : args = #[v0] := by cases args; simp_all
  obtain ⟨rfl, rfl⟩ := trodVars_none hV
  have k0 := h0
  have lt0 : ∀ x ∈ p0, x.block < W.heap.size := by obtain ⟨m, hm⟩ := k0; exact DataW.trod_lt m _ _ _ hm
  have hv0 := hval 0 46 v0 rfl rfl
  obtain ⟨ao, len, cap, rfl⟩ := okWide_slice Try.underlying46 hv0
  obtain ⟨fuel, hf⟩ := h0
  obtain ⟨bs, hbs, hml⟩ := isBytes_of_trod (by simpa [Value.cells] using hf)
  clear hA0 hval0
  refine (fnBddSome_walk _ bs W hbs (fun ao' n' cap' b off h1 h2 => by cases h1; subst h2; exact okWide_slice_lt Try.underlying46 hv0) hml).mono fun e W' ⟨he, bel⟩ => ?_
  subst he
  exact ⟨_, rfl, _, _, _, [], _, [], hW', trodAll_mk1 (shut_bool Try.underlying4 _), (trodAll_cons_mk (Below.trod laidOutN (by kernel_rfl) (of_decide_eq_true (by kernel_rfl)) k0 bel lt0) trodAll_mk0), rfl, bel.frame _, fun h => by cases h⟩

theorem fnBddSome_holds : Rows.FnBddSomeSaid :=
  OpenClaim.holds_of_wide 11 Try.f11 rfl rfl rfl rfl rfl rfl rfl ⟨rfl, rfl, rfl, rfl, rfl⟩ rfl rfl rfl rfl rfl (by kernel_rfl) Try.func11 (by kernel_rfl)
    (of_decide_eq_true (by kernel_rfl)) (by unfold Func.isWrapper; first | (rw [if_pos (by decide +kernel)]; kernel_rfl) | (rw [if_neg (by decide +kernel)]; exact ⟨rfl, rfl⟩))
    (fun os started H enc _ => fnBddSome_lifted os started H enc)

end Go.Proofs.Ytknpifjkllcdeaa
