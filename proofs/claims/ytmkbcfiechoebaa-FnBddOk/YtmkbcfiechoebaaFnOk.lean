/-
  The law FnBddOk: of every drawn diagram, the program says that it is in its form just if the model does; if it is, the diagram of its table is it itself, and of each way it says what its table does. No condition: every argument that can be read.
-/
import Derived.Test.YtmkbcfiechoebaaBdDx
import Derived.Test.YtmkbcfiechoebaaBdPb
import Derived.Test.YtmkbcfiechoebaaBdPc
import Derived.Test.YtmkbcfiechoebaaBdRg
import Derived.Test.YtmkbcfiechoebaaBdI
import Derived.Test.YtmkbcfiechoebaaBdJ
import Derived.Test.YtmkbcfiechoebaaBdO
import Derived.Test.YtmkbcfiechoebaaOpenB
namespace Go.Proofs.Ytmkbcfiechoebaa
open Go.ChangeShapes Go.WideShapes Go.ChangeAt Go.RowKit Go.Deep Go.Joins
set_option linter.unusedVariables false

attribute [local go_sem] Oper.semAt_some

set_option maxRecDepth 100000 in
set_option maxHeartbeats 16000000 in
theorem fnBddOk_walk (v : Value) (bs : List Int) (w : World) (hv : IsBytes w v bs) (hal : ∀ ao n cap b off, v = .slice ao n cap → ao = some ⟨b, off, none⟩ → b < w.heap.size) (hml : bs.length ≤ maxLen) :
    Calls Try.prog 4 #[v] w fun e w' => e = .returned (.bool true) ∧ Below w.heap.size w w' := by
  unfold maxLen at hml
  have HDR := hideN (fun (h : bs.length ≤ 1048576) => drawBddIs_any v bs w hv h hal)
  obtain ⟨aoc, capc, rfl, _⟩ := hv
  clear hal
  by_cases hbig : bs.length ≤ 1048576
  case neg =>
    have d1 : decide ((1048576 : Int) < (bs.length : Int)) = true := by simp; omega
    go_enter Try.func4, Try.ntmps4
    go_wp2_with fail
    go_ret
    exact ⟨rfl, Below.refl _ _⟩
  have d1 : decide ((1048576 : Int) < (bs.length : Int)) = false := by simp; omega
  have HDW := hideN (HDR.out hbig)
  clear HDR
  go_enter Try.func4, Try.ntmps4
  go_wp2_with fail
  refine HDW.out.mono ?_
  rintro e w0 ⟨vi, root, ao, n, cap, ns, gw, cw, ws, rfl, hsv, hsr, hn80, hnl, hsm, hrow, hb0, how, hwl⟩
  have hN0 : Nds w0 ao n cap ns := nds_of_own hrow hnl
  have H64 : ∀ q ∈ ns, I64N q := fun q hq => smN64 (hsm q hq)
  have HR := sm64 hsr
  obtain ⟨W1, hW1⟩ : ∃ W1, W1 = w0.alloc (.cells #[.int .i64 vi, .slice ao n cap, .int .i64 root] 28) := ⟨_, rfl⟩
  have HK1 : Hid (BlkD W1 w0.heap.size (.int .i64 vi) (.slice ao n cap) (.int .i64 root)) := by rw [hW1]; exact BlkD.new _ _ _ _
  have HB1 : Hid (Below w.heap.size w W1) := by rw [hW1]; exact belNext hb0 (belOne _ _)
  have hN1 : Nds W1 ao n cap ns := by rw [hW1]; exact hN0.below (belOne _ _)
  obtain ⟨B3, hB3⟩ : ∃ B3, w0.heap.size = B3 := ⟨_, rfl⟩
  rw [hB3] at HK1
  have hoW : Ownb W1 w.heap.size (.slice (some ⟨gw, 0, none⟩) ws.length cw) ws := by rw [hW1]; exact how.below (belOne _ _)
  obtain ⟨L, hL⟩ : ∃ L, ws.length = L := ⟨_, rfl⟩
  have HOW : Hid (∀ V, Below W1.heap.size W1 V → Ownb V w.heap.size (.slice (some ⟨gw, 0, none⟩) ws.length cw) ws) := fun V hV => hoW.below hV
  rw [hL] at HOW
  have HTW : Hid (∀ V, Below W1.heap.size W1 V → Tab V gw 0 cw ws) := fun V hV => by
    have ho := HOW.out V hV
    refine ⟨?_, fun i hi => by rw [Nat.zero_add]; exact (ownb_cell ho hi).1⟩
    by_cases h0 : 0 < ws.length
    · exact (ownb_cell ho h0).2.2
    · omega
  have HIO := hideN (fun V (hV : Below W1.heap.size W1 V) => implBddOk_any vi root ao n cap ns V (hN1.below hV) H64 HR)
  have HSO := hideN (fun V (hV : Below W1.heap.size W1 V) => specBddOk_any vi root ao n cap ns V (hN1.below hV) H64 HR (by omega))
  have HII := hideN (fun V (hV : Below W1.heap.size W1 V) => implBddIs_any vi root ao n cap gw 0 cw L ns ws V (hN1.below hV) H64 HR hL (HTW.out V hV))
  have HSI := hideN (fun V (hV : Below W1.heap.size W1 V) => specBddIs_any vi root ao n cap gw 0 cw L ns ws V (hN1.below hV) H64 HR (by omega) hL (HTW.out V hV))
  have HIT := hideN (fun V (hV : Below W1.heap.size W1 V) => implBddTable_any vi root ao n cap ns V (hN1.below hV) H64 HR)
  have HNB := hideN (fun V (hV : Below W1.heap.size W1 V) => hN1.below hV)
  have HC : Hid (∀ V', Below W1.heap.size W1 V' → V'.cell? ⟨B3, 0, none⟩ = some (.int .i64 vi) ∧ V'.cell? ⟨B3, 1, none⟩ = some (.slice ao n cap) ∧ V'.cell? ⟨B3, 2, none⟩ = some (.int .i64 root)) := fun V' hV => ⟨(HK1.out.below hV).c0, (HK1.out.below hV).c1, (HK1.out.below hV).c2⟩
  have HW1 := hideN hW1
  have HNL := hideN hnl
  have HL := hideN hL
  have HN80 := hideN hn80
  have hvl := hsv.1
  have hvh := hsv.2
  have c0 := HK1.out.c0
  have c1 := HK1.out.c1
  have c2 := HK1.out.c2
  have c3 := HK1.out.lt
  rw [← hB3] at c0 c1 c2 c3
  have HB3e := hideN hB3
  obtain ⟨r, hr⟩ : ∃ r, isB vi ns root ws = r := ⟨_, rfl⟩
  rw [hr] at HII HSI
  clear hN0 hN1 H64 HR hsm hrow hW1 hb0 hsv hsr HDW how hoW hnl hn80
  rw [hL]
  clear hL
  cases hbd : bddB vi ns root with
  | false =>
    rw [hbd] at HIO HSO
    clear HIT
    go_wp2_with fail
    try rw [← HW1.out]
    try rw [hB3]
    refine (HIO.out W1 (Below.refl _ _)).mono ?_
    rintro e w2 ⟨rfl, hb2⟩
    have HB2 := hideN hb2
    clear hb2 c0 c1 c2 c3
    go_wp2_with fail
    have HB2d := hideN (belNext HB2.out (below_drewN (Below.refl w2.heap.size w2) 1))
    obtain ⟨z0, z1, z2⟩ := HC.out w2.drew HB2d.out
    refine region_U (fin := 16) (S := fun V' => V'.cell? ⟨B3, 0, none⟩ = some (.int .i64 vi) ∧ V'.cell? ⟨B3, 1, none⟩ = some (.slice ao n cap) ∧ V'.cell? ⟨B3, 2, none⟩ = some (.int .i64 root)) (by kernel_rfl) ⟨z0, z1, z2⟩ (fun hHeld => ?_)
    clear hHeld
    refine takeU (i := 0) (v := .bool false) rfl (by rfl) (by kernel_rfl) (by kernel_rfl) (by kernel_rfl) (by kernel_rfl) (by kernel_rfl) (fun _ _ _ h => h) (Or.inl ⟨by rfl, fun w hS => by obtain ⟨z0, z1, z2⟩ := hS; go_simp⟩) ⟨z0, z1, z2⟩ ?_
    simp only [List.getElem_toArray, List.getElem_cons_zero, Act.put, List.setIfInBounds_toArray, List.set_cons_zero, List.set_cons_succ]
    refine takeU (i := 1) (v := .agg #[.int .i64 vi, .slice ao n cap, .int .i64 root]) rfl (by rfl) (by kernel_rfl) (by kernel_rfl) (by kernel_rfl) (by kernel_rfl) (by kernel_rfl) (fun _ _ _ h => h) (Or.inl ⟨by rfl, fun w hS => by obtain ⟨z0, z1, z2⟩ := hS; go_simp⟩) ⟨z0, z1, z2⟩ ?_
    simp only [List.getElem_toArray, List.getElem_cons_zero, List.getElem_cons_succ, Act.put, List.setIfInBounds_toArray, List.set_cons_zero, List.set_cons_succ]
    refine oneU (i := 2) (by kernel_rfl) rfl (by rfl) ?_
    simp only [List.getElem_toArray, List.getElem_cons_zero, List.getElem_cons_succ]
    go_simp
    refine (HSO.out w2.drew HB2d.out).mono ?_
    rintro e w3 ⟨rfl, hb3⟩
    have HB3 := hideN (belNext HB2d.out hb3)
    obtain ⟨z0, z1, z2⟩ := HC.out w3 HB3.out
    refine ⟨⟨z0, z1, z2⟩, ?_⟩
    clear hb3
    refine takeU (i := 3) (v := .bool false) rfl (by rfl) (by kernel_rfl) (by kernel_rfl) (by kernel_rfl) (by kernel_rfl) (by kernel_rfl) (fun _ _ _ h => h) (Or.inl ⟨by rfl, fun w hS => by obtain ⟨z0, z1, z2⟩ := hS; go_simp⟩) ⟨z0, z1, z2⟩ ?_
    simp only [List.getElem_toArray, List.getElem_cons_zero, List.getElem_cons_succ, Act.put, List.setIfInBounds_toArray, List.set_cons_zero, List.set_cons_succ]
    refine takeU (i := 4) (v := .bool false) rfl (by rfl) (by kernel_rfl) (by kernel_rfl) (by kernel_rfl) (by kernel_rfl) (by kernel_rfl) (fun _ _ _ h => h) (Or.inl ⟨by rfl, fun w hS => by obtain ⟨z0, z1, z2⟩ := hS; go_simp⟩) ⟨z0, z1, z2⟩ ?_
    simp only [List.getElem_toArray, List.getElem_cons_zero, List.getElem_cons_succ, Act.put, List.setIfInBounds_toArray, List.set_cons_zero, List.set_cons_succ]
    refine takeU (i := 5) (v := .agg #[.int .i64 vi, .slice ao n cap, .int .i64 root]) rfl (by rfl) (by kernel_rfl) (by kernel_rfl) (by kernel_rfl) (by kernel_rfl) (by kernel_rfl) (fun _ _ _ h => h) (Or.inl ⟨by rfl, fun w hS => by obtain ⟨z0, z1, z2⟩ := hS; go_simp⟩) ⟨z0, z1, z2⟩ ?_
    simp only [List.getElem_toArray, List.getElem_cons_zero, List.getElem_cons_succ, Act.put, List.setIfInBounds_toArray, List.set_cons_zero, List.set_cons_succ]
    refine takeU (i := 6) (v := .slice (some ⟨gw, 0, none⟩) L cw) rfl (by rfl) (by kernel_rfl) (by kernel_rfl) (by kernel_rfl) (by kernel_rfl) (by kernel_rfl) (fun _ _ _ h => h) (Or.inl ⟨by rfl, fun w hS => by obtain ⟨z0, z1, z2⟩ := hS; go_simp⟩) ⟨z0, z1, z2⟩ ?_
    simp only [List.getElem_toArray, List.getElem_cons_zero, List.getElem_cons_succ, Act.put, List.setIfInBounds_toArray, List.set_cons_zero, List.set_cons_succ]
    refine takeU (i := 8) (v := .agg #[.int .i64 vi, .slice ao n cap, .int .i64 root]) rfl (by rfl) (by kernel_rfl) (by kernel_rfl) (by kernel_rfl) (by kernel_rfl) (by kernel_rfl) (fun _ _ _ h => h) (Or.inl ⟨by rfl, fun w hS => by obtain ⟨z0, z1, z2⟩ := hS; go_simp⟩) ⟨z0, z1, z2⟩ ?_
    simp only [List.getElem_toArray, List.getElem_cons_zero, List.getElem_cons_succ, Act.put, List.setIfInBounds_toArray, List.set_cons_zero, List.set_cons_succ]
    refine takeU (i := 9) (v := .slice (some ⟨gw, 0, none⟩) L cw) rfl (by rfl) (by kernel_rfl) (by kernel_rfl) (by kernel_rfl) (by kernel_rfl) (by kernel_rfl) (fun _ _ _ h => h) (Or.inl ⟨by rfl, fun w hS => by obtain ⟨z0, z1, z2⟩ := hS; go_simp⟩) ⟨z0, z1, z2⟩ ?_
    simp only [List.getElem_toArray, List.getElem_cons_zero, List.getElem_cons_succ, Act.put, List.setIfInBounds_toArray, List.set_cons_zero, List.set_cons_succ]
    refine oneU (i := 7) (by kernel_rfl) rfl (by rfl) ?_
    simp only [List.getElem_toArray, List.getElem_cons_zero, List.getElem_cons_succ]
    go_simp
    refine (HII.out w3 HB3.out).mono ?_
    rintro e w4 ⟨rfl, hb4⟩
    have HB4 := hideN (belNext HB3.out hb4)
    obtain ⟨z0, z1, z2⟩ := HC.out w4 HB4.out
    refine ⟨⟨z0, z1, z2⟩, ?_⟩
    clear hb4
    refine oneU (i := 10) (by kernel_rfl) rfl (by rfl) ?_
    simp only [List.getElem_toArray, List.getElem_cons_zero, List.getElem_cons_succ]
    go_simp
    refine (HSI.out w4 HB4.out).mono ?_
    rintro e w5 ⟨rfl, hb5⟩
    have HB5 := hideN (belNext HB4.out hb5)
    obtain ⟨z0, z1, z2⟩ := HC.out w5 HB5.out
    refine ⟨⟨z0, z1, z2⟩, ?_⟩
    clear hb5
    refine takeU (i := 11) (v := .bool false) rfl (by rfl) (by kernel_rfl) (by kernel_rfl) (by kernel_rfl) (by kernel_rfl) (by kernel_rfl) (fun _ _ _ h => h) (Or.inl ⟨by rfl, fun w hS => by obtain ⟨z0, z1, z2⟩ := hS; go_simp⟩) ⟨z0, z1, z2⟩ ?_
    simp only [List.getElem_toArray, List.getElem_cons_zero, List.getElem_cons_succ, Act.put, List.setIfInBounds_toArray, List.set_cons_zero, List.set_cons_succ]
    refine takeU (i := 12) (v := .bool false) rfl (by rfl) (by kernel_rfl) (by kernel_rfl) (by kernel_rfl) (by kernel_rfl) (by kernel_rfl) (fun _ _ _ h => h) (Or.inl ⟨by rfl, fun w hS => by obtain ⟨z0, z1, z2⟩ := hS; go_simp⟩) ⟨z0, z1, z2⟩ ?_
    simp only [List.getElem_toArray, List.getElem_cons_zero, List.getElem_cons_succ, Act.put, List.setIfInBounds_toArray, List.set_cons_zero, List.set_cons_succ]
    refine takeU (i := 13) (v := .bool false) rfl (by rfl) (by kernel_rfl) (by kernel_rfl) (by kernel_rfl) (by kernel_rfl) (by kernel_rfl) (fun _ _ _ h => h) (Or.inl ⟨by rfl, fun w hS => by obtain ⟨z0, z1, z2⟩ := hS; go_simp⟩) ⟨z0, z1, z2⟩ ?_
    simp only [List.getElem_toArray, List.getElem_cons_zero, List.getElem_cons_succ, Act.put, List.setIfInBounds_toArray, List.set_cons_zero, List.set_cons_succ]
    refine takeU (i := 14) (v := .bool false) rfl (by rfl) (by kernel_rfl) (by kernel_rfl) (by kernel_rfl) (by kernel_rfl) (by kernel_rfl) (fun _ _ _ h => h) (Or.inl ⟨by rfl, fun w hS => by obtain ⟨z0, z1, z2⟩ := hS; go_simp⟩) ⟨z0, z1, z2⟩ ?_
    simp only [List.getElem_toArray, List.getElem_cons_zero, List.getElem_cons_succ, Act.put, List.setIfInBounds_toArray, List.set_cons_zero, List.set_cons_succ]
    refine takeU (i := 15) (v := .bool true) rfl (by rfl) (by kernel_rfl) (by kernel_rfl) (by kernel_rfl) (by kernel_rfl) (by kernel_rfl) (fun _ _ _ h => h) (Or.inl ⟨by rfl, fun w hS => by obtain ⟨z0, z1, z2⟩ := hS; go_simp⟩) ⟨z0, z1, z2⟩ ?_
    simp only [List.getElem_toArray, List.getElem_cons_zero, List.getElem_cons_succ, Act.put, List.setIfInBounds_toArray, List.set_cons_zero, List.set_cons_succ]
    refine oneU (i := 16) (by kernel_rfl) rfl (by rfl) ?_
    simp only [List.getElem_toArray, List.getElem_cons_zero, List.getElem_cons_succ]
    go_simp
    refine doneU (by kernel_rfl) ?_ _
    clear z0 z1 z2
    go_wp2_with fail
    have HB5d := hideN (belNext HB5.out (below_drewN (Below.refl w5.heap.size w5) 1))
    obtain ⟨z0, z1, z2⟩ := HC.out w5.drew HB5d.out
    refine region_U (fin := 13) (S := fun V' => V'.cell? ⟨B3, 0, none⟩ = some (.int .i64 vi) ∧ V'.cell? ⟨B3, 1, none⟩ = some (.slice ao n cap) ∧ V'.cell? ⟨B3, 2, none⟩ = some (.int .i64 root)) (by kernel_rfl) ⟨z0, z1, z2⟩ (fun hHeld => ?_)
    clear hHeld
    refine takeU (i := 0) (v := .bool false) rfl (by rfl) (by kernel_rfl) (by kernel_rfl) (reach_one (by kernel_rfl)) (by kernel_rfl) (by kernel_rfl) (fun _ _ _ h => h) (Or.inl ⟨by rfl, fun w hS => by obtain ⟨z0, z1, z2⟩ := hS; go_simp⟩) ⟨z0, z1, z2⟩ ?_
    simp only [List.getElem_toArray, List.getElem_cons_zero, Act.put, List.setIfInBounds_toArray, List.set_cons_zero, List.set_cons_succ]
    refine takeU (i := 1) (v := .agg #[.int .i64 vi, .slice ao n cap, .int .i64 root]) rfl (by rfl) (by kernel_rfl) (by kernel_rfl) (reach_one (by kernel_rfl)) (by kernel_rfl) (by kernel_rfl) (fun _ _ _ h => h) (Or.inl ⟨by rfl, fun w hS => by obtain ⟨z0, z1, z2⟩ := hS; go_simp⟩) ⟨z0, z1, z2⟩ ?_
    simp only [List.getElem_toArray, List.getElem_cons_zero, List.getElem_cons_succ, Act.put, List.setIfInBounds_toArray, List.set_cons_zero, List.set_cons_succ]
    refine oneU (i := 2) (by kernel_rfl) rfl (by rfl) ?_
    simp only [List.getElem_toArray, List.getElem_cons_zero, List.getElem_cons_succ]
    go_simp
    refine (HSO.out w5.drew HB5d.out).mono ?_
    rintro e w6 ⟨rfl, hb6⟩
    have HB6 := hideN (belNext HB5d.out hb6)
    obtain ⟨z0, z1, z2⟩ := HC.out w6 HB6.out
    refine ⟨⟨z0, z1, z2⟩, ?_⟩
    clear hb6
    refine takeU (i := 3) (v := .bool true) rfl (by rfl) (by kernel_rfl) (by kernel_rfl) (reach_one (by kernel_rfl)) (by kernel_rfl) (by kernel_rfl) (fun _ _ _ h => h) (Or.inl ⟨by rfl, fun w hS => by obtain ⟨z0, z1, z2⟩ := hS; go_simp⟩) ⟨z0, z1, z2⟩ ?_
    simp only [List.getElem_toArray, List.getElem_cons_zero, List.getElem_cons_succ, Act.put, List.setIfInBounds_toArray, List.set_cons_zero, List.set_cons_succ]
    refine takeU (i := 4) (v := .bool true) rfl (by rfl) (by kernel_rfl) (by kernel_rfl) (reach_one (by kernel_rfl)) (by kernel_rfl) (by kernel_rfl) (fun _ _ _ h => h) (Or.inl ⟨by rfl, fun w hS => by obtain ⟨z0, z1, z2⟩ := hS; go_simp⟩) ⟨z0, z1, z2⟩ ?_
    simp only [List.getElem_toArray, List.getElem_cons_zero, List.getElem_cons_succ, Act.put, List.setIfInBounds_toArray, List.set_cons_zero, List.set_cons_succ]
    refine takeU (i := 5) (v := .agg #[.int .i64 vi, .slice ao n cap, .int .i64 root]) rfl (by rfl) (by kernel_rfl) (by kernel_rfl) (reach_one (by kernel_rfl)) (by kernel_rfl) (by kernel_rfl) (fun _ _ _ h => h) (Or.inl ⟨by rfl, fun w hS => by obtain ⟨z0, z1, z2⟩ := hS; go_simp⟩) ⟨z0, z1, z2⟩ ?_
    simp only [List.getElem_toArray, List.getElem_cons_zero, List.getElem_cons_succ, Act.put, List.setIfInBounds_toArray, List.set_cons_zero, List.set_cons_succ]
    refine takeU (i := 6) (v := .slice (some ⟨gw, 0, none⟩) L cw) rfl (by rfl) (by kernel_rfl) (by kernel_rfl) (reach_one (by kernel_rfl)) (by kernel_rfl) (by kernel_rfl) (fun _ _ _ h => h) (Or.inl ⟨by rfl, fun w hS => by obtain ⟨z0, z1, z2⟩ := hS; go_simp⟩) ⟨z0, z1, z2⟩ ?_
    simp only [List.getElem_toArray, List.getElem_cons_zero, List.getElem_cons_succ, Act.put, List.setIfInBounds_toArray, List.set_cons_zero, List.set_cons_succ]
    refine takeU (i := 8) (v := .agg #[.int .i64 vi, .slice ao n cap, .int .i64 root]) rfl (by rfl) (by kernel_rfl) (by kernel_rfl) (reach_one (by kernel_rfl)) (by kernel_rfl) (by kernel_rfl) (fun _ _ _ h => h) (Or.inl ⟨by rfl, fun w hS => by obtain ⟨z0, z1, z2⟩ := hS; go_simp⟩) ⟨z0, z1, z2⟩ ?_
    simp only [List.getElem_toArray, List.getElem_cons_zero, List.getElem_cons_succ, Act.put, List.setIfInBounds_toArray, List.set_cons_zero, List.set_cons_succ]
    refine takeU (i := 9) (v := .slice (some ⟨gw, 0, none⟩) L cw) rfl (by rfl) (by kernel_rfl) (by kernel_rfl) (reach_one (by kernel_rfl)) (by kernel_rfl) (by kernel_rfl) (fun _ _ _ h => h) (Or.inl ⟨by rfl, fun w hS => by obtain ⟨z0, z1, z2⟩ := hS; go_simp⟩) ⟨z0, z1, z2⟩ ?_
    simp only [List.getElem_toArray, List.getElem_cons_zero, List.getElem_cons_succ, Act.put, List.setIfInBounds_toArray, List.set_cons_zero, List.set_cons_succ]
    refine oneU (i := 7) (by kernel_rfl) rfl (by rfl) ?_
    simp only [List.getElem_toArray, List.getElem_cons_zero, List.getElem_cons_succ]
    go_simp
    refine (HII.out w6 HB6.out).mono ?_
    rintro e w7 ⟨rfl, hb7⟩
    have HB7 := hideN (belNext HB6.out hb7)
    obtain ⟨z0, z1, z2⟩ := HC.out w7 HB7.out
    refine ⟨⟨z0, z1, z2⟩, ?_⟩
    clear hb7
    refine oneU (i := 10) (by kernel_rfl) rfl (by rfl) ?_
    simp only [List.getElem_toArray, List.getElem_cons_zero, List.getElem_cons_succ]
    go_simp
    refine (HSI.out w7 HB7.out).mono ?_
    rintro e w8 ⟨rfl, hb8⟩
    have HBE := hideN (belNext HB1.out (belNext HB7.out hb8))
    obtain ⟨z0, z1, z2⟩ := HC.out w8 (belNext HB7.out hb8)
    refine ⟨⟨z0, z1, z2⟩, ?_⟩
    clear hb8
    refine takeU (i := 11) (v := .bool true) rfl (by rfl) (by kernel_rfl) (by kernel_rfl) (reach_one (by kernel_rfl)) (by kernel_rfl) (by kernel_rfl) (fun _ _ _ h => h) (Or.inl ⟨by rfl, fun w hS => by obtain ⟨z0, z1, z2⟩ := hS; go_simp⟩) ⟨z0, z1, z2⟩ ?_
    simp only [List.getElem_toArray, List.getElem_cons_zero, List.getElem_cons_succ, Act.put, List.setIfInBounds_toArray, List.set_cons_zero, List.set_cons_succ]
    refine takeU (i := 12) (v := .bool true) rfl (by rfl) (by kernel_rfl) (by kernel_rfl) (reach_one (by kernel_rfl)) (by kernel_rfl) (by kernel_rfl) (fun _ _ _ h => h) (Or.inl ⟨by rfl, fun w hS => by obtain ⟨z0, z1, z2⟩ := hS; go_simp⟩) ⟨z0, z1, z2⟩ ?_
    simp only [List.getElem_toArray, List.getElem_cons_zero, List.getElem_cons_succ, Act.put, List.setIfInBounds_toArray, List.set_cons_zero, List.set_cons_succ]
    refine oneU (i := 13) (by kernel_rfl) rfl (by rfl) ?_
    simp only [List.getElem_toArray, List.getElem_cons_zero, List.getElem_cons_succ]
    go_simp
    refine doneU (by kernel_rfl) ?_ _
    go_wp2
    go_ret
    exact ⟨rfl, HBE.out⟩
  | true =>
    rw [hbd] at HIO HSO
    obtain ⟨V, rfl, h6, -⟩ := bdd_split hbd
    have HTS : Hid (tabS (V : Int) ns root = tabN V ns root) := by show _ = _; unfold tabS; rw [hbd, if_pos rfl, Int.toNat_natCast]
    have HTL := hideN (tabN_length V ns root)
    have HFM := hideN (bdd_form hbd)
    have HFB : Hid (∀ p ∈ ns, FitN p) := by
      obtain ⟨V', hVV, _, hnn, hok, _, _⟩ := bdd_split hbd
      obtain rfl : V' = V := by omega
      exact nodes_fit h6 hnn hok
    have HR : Hid (L = V → ∃ F, F < 2 ^ V ∧ ws = wayL V F ∧ r = (tabN V ns root).getD F false) := fun hLV => by
      obtain ⟨F, hF, e⟩ := exists_way V ws (HL.out.trans hLV)
      refine ⟨F, hF, e, ?_⟩
      rw [tabN_get V ns root F hF, ← hr, e]
      unfold isB
      rw [hbd, wayL_length]
      simp
    clear hr
    rw [HTS.out] at HIT
    have hMp : 2 ^ V ≤ 64 := by show _ ≤ 2 ^ 6; exact Nat.pow_le_pow_right (by decide) h6
    have hM0 : 0 < 2 ^ V := Nat.pow_pos (by decide)
    have HOF := hideN (fun (W : World) (b c : Nat) (hT : Tab W b 0 c (tabN V ns root)) (hb : b < W.heap.size) => implBddOf_any (V : Int) b 0 c (2 ^ V) (tabN V ns root) W (tabN_length V ns root) (by omega) hT hb)
    have hfit : bddFits (V : Int) (tabN V ns root).length = true := by unfold bddFits; rw [tabN_length, Int.toNat_natCast]; simp; omega
    unfold OfPost ofVars ofNodes ofRoot at HOF
    rw [hfit, if_pos rfl, if_pos rfl, if_pos rfl, Int.toNat_natCast, HFM.out] at HOF
    simp only at HOF
    clear hfit HTS
    generalize tabN V ns root = T at *
    obtain ⟨M, hM⟩ : ∃ M, 2 ^ V = M := ⟨_, rfl⟩
    rw [hM] at HR HOF HTL hMp hM0
    have HM := hideN hM
    clear hM HFM
    go_wp2_with fail
    try rw [← HW1.out]
    try rw [hB3]
    refine (HIO.out W1 (Below.refl _ _)).mono ?_
    rintro e w2 ⟨rfl, hb2⟩
    have HB2 := hideN hb2
    clear hb2 c0 c1 c2 c3
    go_wp2_with fail
    have HB2d := hideN (belNext HB2.out (below_drewN (Below.refl w2.heap.size w2) 1))
    obtain ⟨z0, z1, z2⟩ := HC.out w2.drew HB2d.out
    refine region_U (fin := 16) (S := fun V' => V'.cell? ⟨B3, 0, none⟩ = some (.int .i64 (V : Int)) ∧ V'.cell? ⟨B3, 1, none⟩ = some (.slice ao n cap) ∧ V'.cell? ⟨B3, 2, none⟩ = some (.int .i64 root)) (by kernel_rfl) ⟨z0, z1, z2⟩ (fun hHeld => ?_)
    clear hHeld
    refine takeU (i := 0) (v := .bool true) rfl (by rfl) (by kernel_rfl) (by kernel_rfl) (by kernel_rfl) (by kernel_rfl) (by kernel_rfl) (fun _ _ _ h => h) (Or.inl ⟨by rfl, fun w hS => by obtain ⟨z0, z1, z2⟩ := hS; go_simp⟩) ⟨z0, z1, z2⟩ ?_
    simp only [List.getElem_toArray, List.getElem_cons_zero, Act.put, List.setIfInBounds_toArray, List.set_cons_zero, List.set_cons_succ]
    refine takeU (i := 1) (v := .agg #[.int .i64 (V : Int), .slice ao n cap, .int .i64 root]) rfl (by rfl) (by kernel_rfl) (by kernel_rfl) (by kernel_rfl) (by kernel_rfl) (by kernel_rfl) (fun _ _ _ h => h) (Or.inl ⟨by rfl, fun w hS => by obtain ⟨z0, z1, z2⟩ := hS; go_simp⟩) ⟨z0, z1, z2⟩ ?_
    simp only [List.getElem_toArray, List.getElem_cons_zero, List.getElem_cons_succ, Act.put, List.setIfInBounds_toArray, List.set_cons_zero, List.set_cons_succ]
    refine oneU (i := 2) (by kernel_rfl) rfl (by rfl) ?_
    simp only [List.getElem_toArray, List.getElem_cons_zero, List.getElem_cons_succ]
    go_simp
    refine (HSO.out w2.drew HB2d.out).mono ?_
    rintro e w3 ⟨rfl, hb3⟩
    have HB3 := hideN (belNext HB2d.out hb3)
    obtain ⟨z0, z1, z2⟩ := HC.out w3 HB3.out
    refine ⟨⟨z0, z1, z2⟩, ?_⟩
    clear hb3
    refine takeU (i := 3) (v := .bool false) rfl (by rfl) (by kernel_rfl) (by kernel_rfl) (by kernel_rfl) (by kernel_rfl) (by kernel_rfl) (fun _ _ _ h => h) (Or.inl ⟨by rfl, fun w hS => by obtain ⟨z0, z1, z2⟩ := hS; go_simp⟩) ⟨z0, z1, z2⟩ ?_
    simp only [List.getElem_toArray, List.getElem_cons_zero, List.getElem_cons_succ, Act.put, List.setIfInBounds_toArray, List.set_cons_zero, List.set_cons_succ]
    refine takeU (i := 4) (v := .bool false) rfl (by rfl) (by kernel_rfl) (by kernel_rfl) (by kernel_rfl) (by kernel_rfl) (by kernel_rfl) (fun _ _ _ h => h) (Or.inl ⟨by rfl, fun w hS => by obtain ⟨z0, z1, z2⟩ := hS; go_simp⟩) ⟨z0, z1, z2⟩ ?_
    simp only [List.getElem_toArray, List.getElem_cons_zero, List.getElem_cons_succ, Act.put, List.setIfInBounds_toArray, List.set_cons_zero, List.set_cons_succ]
    refine takeU (i := 5) (v := .agg #[.int .i64 (V : Int), .slice ao n cap, .int .i64 root]) rfl (by rfl) (by kernel_rfl) (by kernel_rfl) (by kernel_rfl) (by kernel_rfl) (by kernel_rfl) (fun _ _ _ h => h) (Or.inl ⟨by rfl, fun w hS => by obtain ⟨z0, z1, z2⟩ := hS; go_simp⟩) ⟨z0, z1, z2⟩ ?_
    simp only [List.getElem_toArray, List.getElem_cons_zero, List.getElem_cons_succ, Act.put, List.setIfInBounds_toArray, List.set_cons_zero, List.set_cons_succ]
    refine takeU (i := 6) (v := .slice (some ⟨gw, 0, none⟩) L cw) rfl (by rfl) (by kernel_rfl) (by kernel_rfl) (by kernel_rfl) (by kernel_rfl) (by kernel_rfl) (fun _ _ _ h => h) (Or.inl ⟨by rfl, fun w hS => by obtain ⟨z0, z1, z2⟩ := hS; go_simp⟩) ⟨z0, z1, z2⟩ ?_
    simp only [List.getElem_toArray, List.getElem_cons_zero, List.getElem_cons_succ, Act.put, List.setIfInBounds_toArray, List.set_cons_zero, List.set_cons_succ]
    refine takeU (i := 8) (v := .agg #[.int .i64 (V : Int), .slice ao n cap, .int .i64 root]) rfl (by rfl) (by kernel_rfl) (by kernel_rfl) (by kernel_rfl) (by kernel_rfl) (by kernel_rfl) (fun _ _ _ h => h) (Or.inl ⟨by rfl, fun w hS => by obtain ⟨z0, z1, z2⟩ := hS; go_simp⟩) ⟨z0, z1, z2⟩ ?_
    simp only [List.getElem_toArray, List.getElem_cons_zero, List.getElem_cons_succ, Act.put, List.setIfInBounds_toArray, List.set_cons_zero, List.set_cons_succ]
    refine takeU (i := 9) (v := .slice (some ⟨gw, 0, none⟩) L cw) rfl (by rfl) (by kernel_rfl) (by kernel_rfl) (by kernel_rfl) (by kernel_rfl) (by kernel_rfl) (fun _ _ _ h => h) (Or.inl ⟨by rfl, fun w hS => by obtain ⟨z0, z1, z2⟩ := hS; go_simp⟩) ⟨z0, z1, z2⟩ ?_
    simp only [List.getElem_toArray, List.getElem_cons_zero, List.getElem_cons_succ, Act.put, List.setIfInBounds_toArray, List.set_cons_zero, List.set_cons_succ]
    refine oneU (i := 7) (by kernel_rfl) rfl (by rfl) ?_
    simp only [List.getElem_toArray, List.getElem_cons_zero, List.getElem_cons_succ]
    go_simp
    refine (HII.out w3 HB3.out).mono ?_
    rintro e w4 ⟨rfl, hb4⟩
    have HB4 := hideN (belNext HB3.out hb4)
    obtain ⟨z0, z1, z2⟩ := HC.out w4 HB4.out
    refine ⟨⟨z0, z1, z2⟩, ?_⟩
    clear hb4
    refine oneU (i := 10) (by kernel_rfl) rfl (by rfl) ?_
    simp only [List.getElem_toArray, List.getElem_cons_zero, List.getElem_cons_succ]
    go_simp
    refine (HSI.out w4 HB4.out).mono ?_
    rintro e w5 ⟨rfl, hb5⟩
    have HB5 := hideN (belNext HB4.out hb5)
    obtain ⟨z0, z1, z2⟩ := HC.out w5 HB5.out
    refine ⟨⟨z0, z1, z2⟩, ?_⟩
    clear hb5
    refine takeU (i := 11) (v := .bool false) rfl (by rfl) (by kernel_rfl) (by kernel_rfl) (by kernel_rfl) (by kernel_rfl) (by kernel_rfl) (fun _ _ _ h => h) (Or.inl ⟨by rfl, fun w hS => by obtain ⟨z0, z1, z2⟩ := hS; go_simp⟩) ⟨z0, z1, z2⟩ ?_
    simp only [List.getElem_toArray, List.getElem_cons_zero, List.getElem_cons_succ, Act.put, List.setIfInBounds_toArray, List.set_cons_zero, List.set_cons_succ]
    refine takeU (i := 12) (v := .bool false) rfl (by rfl) (by kernel_rfl) (by kernel_rfl) (by kernel_rfl) (by kernel_rfl) (by kernel_rfl) (fun _ _ _ h => h) (Or.inl ⟨by rfl, fun w hS => by obtain ⟨z0, z1, z2⟩ := hS; go_simp⟩) ⟨z0, z1, z2⟩ ?_
    simp only [List.getElem_toArray, List.getElem_cons_zero, List.getElem_cons_succ, Act.put, List.setIfInBounds_toArray, List.set_cons_zero, List.set_cons_succ]
    refine takeU (i := 13) (v := .bool false) rfl (by rfl) (by kernel_rfl) (by kernel_rfl) (by kernel_rfl) (by kernel_rfl) (by kernel_rfl) (fun _ _ _ h => h) (Or.inl ⟨by rfl, fun w hS => by obtain ⟨z0, z1, z2⟩ := hS; go_simp⟩) ⟨z0, z1, z2⟩ ?_
    simp only [List.getElem_toArray, List.getElem_cons_zero, List.getElem_cons_succ, Act.put, List.setIfInBounds_toArray, List.set_cons_zero, List.set_cons_succ]
    refine takeU (i := 14) (v := .bool true) rfl (by rfl) (by kernel_rfl) (by kernel_rfl) (by kernel_rfl) (by kernel_rfl) (by kernel_rfl) (fun _ _ _ h => h) (Or.inl ⟨by rfl, fun w hS => by obtain ⟨z0, z1, z2⟩ := hS; go_simp⟩) ⟨z0, z1, z2⟩ ?_
    simp only [List.getElem_toArray, List.getElem_cons_zero, List.getElem_cons_succ, Act.put, List.setIfInBounds_toArray, List.set_cons_zero, List.set_cons_succ]
    refine takeU (i := 15) (v := .bool false) rfl (by rfl) (by kernel_rfl) (by kernel_rfl) (by kernel_rfl) (by kernel_rfl) (by kernel_rfl) (fun _ _ _ h => h) (Or.inl ⟨by rfl, fun w hS => by obtain ⟨z0, z1, z2⟩ := hS; go_simp⟩) ⟨z0, z1, z2⟩ ?_
    simp only [List.getElem_toArray, List.getElem_cons_zero, List.getElem_cons_succ, Act.put, List.setIfInBounds_toArray, List.set_cons_zero, List.set_cons_succ]
    refine oneU (i := 16) (by kernel_rfl) rfl (by rfl) ?_
    simp only [List.getElem_toArray, List.getElem_cons_zero, List.getElem_cons_succ]
    go_simp
    refine doneU (by kernel_rfl) ?_ _
    clear z0 z1 z2
    obtain ⟨z0, z1, z2⟩ := HC.out w5 HB5.out
    go_wp2_with fail
    refine (HIT.out w5 HB5.out).mono ?_
    rintro e w6 ⟨at6, c6, rfl, ho6, hb6⟩
    have hT6 : ∃ b6, at6 = some ⟨b6, 0, none⟩ := by
      obtain ⟨g, cp, he, _⟩ := ho6.cons_form (by rw [HTL.out]; exact hM0)
      injection he with e1 e2 e3
      exact ⟨g, e1⟩
    obtain ⟨b6, rfl⟩ := hT6
    rw [HTL.out] at ho6 ⊢
    have HB6 := hideN (belNext HB5.out hb6)
    have HT6 : Hid (Tab w6 b6 0 c6 T) := ⟨(ownb_cell ho6 (i := 0) (by rw [HTL.out]; exact hM0)).2.2, fun i hi => by rw [Nat.zero_add]; exact (ownb_cell ho6 hi).1⟩
    have hb6l : b6 < w6.heap.size := (ho6.blk b6 rfl).2
    have HCE : Hid (∀ V', Below w6.heap.size w6 V' → ∀ i, i < M → V'.cell? ⟨b6, i, none⟩ = some (.bool (T.getD i false))) := fun V' hV i hi => (ownb_cell (ho6.below hV) (i := i) (by rw [HTL.out]; exact hi)).1
    clear hb6 ho6 z0 z1 z2
    obtain ⟨z0, z1, z2⟩ := HC.out w6 HB6.out
    go_wp2_with fail
    refine (HOF.out w6 b6 c6 HT6.out hb6l).mono ?_
    rintro e w7 ⟨aa, n7, ca, rfl, hn7, hr7, hb7⟩
    have hn7m : n = n7 := by rw [← hn7, HNL.out]
    subst hn7m
    have HB7 := hideN (belNext HB6.out hb7)
    obtain ⟨V7, hV7⟩ : ∃ V7, V7 = w7.alloc (.cells #[.int .i64 (V : Int), .slice aa n ca, .int .i64 root] 28) := ⟨_, rfl⟩
    have hb77 : Below w7.heap.size w7 V7 := by rw [hV7]; exact belOne _ _
    have HQ7 : Hid (BlkD V7 w7.heap.size (.int .i64 (V : Int)) (.slice aa n ca) (.int .i64 root)) := by rw [hV7]; exact BlkD.new _ _ _ _
    have HB7V := hideN (belNext HB7.out hb77)
    have HB67 := hideN (belNext hb7 hb77)
    have HN7 := hideN (nds_of_own (row_below hr7 hb77) hn7)
    have HV7 := hideN hV7
    clear z0 z1 z2 hb7 hb77 hr7 hn7 hV7
    obtain ⟨z0, z1, z2⟩ := HC.out w7 HB7.out
    have hlt3 : B3 < w7.heap.size := cell_lt z0
    go_wp2_with fail
    try rw [← HV7.out]
    clear z0 z1 z2 hlt3
    obtain ⟨q7, hq7⟩ : ∃ q7, w7.heap.size = q7 := ⟨_, rfl⟩
    rw [hq7] at HQ7 ⊢
    refine (rgBdd_any (V : Int) root root aa ao n n ca cap ns ns V7 HN7.out (HNB.out V7 HB7V.out) HFB.out HFB.out (by have := HN80.out; omega) (by have := HN80.out; omega)).mono ?_
    rintro e w8 ⟨rfl, hb8⟩
    have hdec : (decide (root = root) && decide (ns = ns)) = true := by simp
    rw [hdec]
    clear hdec
    have HB8 := hideN (belNext HB7V.out hb8)
    have HB78 := hideN hb8
    clear hb8
    obtain ⟨z0, z1, z2⟩ := HC.out w8 HB8.out
    have q0 := (HQ7.out.below HB78.out).c0
    have q1 := (HQ7.out.below HB78.out).c1
    have q2 := (HQ7.out.below HB78.out).c2
    by_cases hLV : L = V
    case neg =>
      have hLV2 : ¬ (L : Int) = (V : Int) := by omega
      have hLV3 : ((L : Int) == (V : Int)) = false := by simp; omega
      have hLV4 : decide ((L : Int) = (V : Int)) = false := by simp; omega
      go_wp2_with fail
      refine (rgBdd_any (V : Int) root root aa ao n n ca cap ns ns w8 (HN7.out.below HB78.out) (HNB.out w8 HB8.out) HFB.out HFB.out (by have := HN80.out; omega) (by have := HN80.out; omega)).mono ?_
      rintro e w9 ⟨rfl, hb9⟩
      have hdec : (decide (root = root) && decide (ns = ns)) = true := by simp
      rw [hdec]
      have HBE := hideN (belNext HB1.out (belNext HB8.out hb9))
      clear hb9
      go_wp2_with fail
      go_ret
      exact ⟨rfl, HBE.out⟩
    subst hLV
    obtain ⟨F, hF, hws, hrF⟩ := HR.out rfl
    have HWC : Hid (∀ i, i < L → w8.cell? ⟨gw, i, none⟩ = some (.bool ((wayL L F).getD i false))) := fun i hi => by
      rw [← hws]
      exact (ownb_cell (HOW.out w8 HB8.out) (i := i) (by rw [HL.out]; exact hi)).1
    have HTF := hideN (HCE.out w8 (belNext HB67.out HB78.out) F hF)
    have HCF : Hid (∀ V', Below w8.heap.size w8 V' → V'.cell? ⟨b6, F, none⟩ = some (.bool (T.getD F false))) := fun V' hV => HCE.out V' (belNext (belNext HB67.out HB78.out) hV) F hF
    subst hrF
    clear HR hws
    have HWS := hideN (fun k (hk : k < L) => way_step L F k hk)
    have hF64 : F < 64 := by omega
    have HF0 : Hid (F / 2 ^ (L - 0) = 0) := by show _ = _; exact Nat.div_eq_of_lt (by rw [Nat.sub_zero, HM.out]; exact hF)
    have HQB : Hid (∀ k, F / 2 ^ k ≤ 63) := fun k => Nat.le_trans (Nat.div_le_self _ _) (by omega)
    have HFM := hideN hF
    go_wp2_with fail
    go_loopw [9, 10] (fun a i wr => ∃ k z : Nat, k ≤ L ∧ z ≤ 63 ∧ a = .int .i64 (z : Int) ∧ i = .int .i64 (k : Int) ∧ Hid (z = F / 2 ^ (L - k)) ∧ wr = w8) (fun _ i _ => L - (intOf i).toNat)
    case atStart => exact ⟨0, 0, Nat.zero_le _, by omega, rfl, rfl, HF0.out.symm, rfl⟩
    case round =>
      obtain ⟨k, z, hk, hz, rfl, rfl, hzv, rfl⟩ := hrel
      by_cases hlt : k < L
      · have hcell := HWC.out k hlt
        have hws := HWS.out k hlt
        rw [← hzv.out] at hws
        obtain ⟨z2, hz2⟩ : ∃ z2, F / 2 ^ (L - (k + 1)) = z2 := ⟨_, rfl⟩
        have hqb := HQB.out (L - (k + 1))
        rw [hz2] at hws hqb
        have HZ2 := hideN hz2.symm
        clear hz2
        generalize (wayL L F).getD k false = bb at *
        cases bb with
        | true =>
          obtain rfl : z2 = 2 * z + 1 := by rw [hws]; rfl
          clear hws
          go_wp2
          go_roundw
          case rel => exact ⟨k + 1, 2 * z + 1, by omega, by omega, by go_num, by go_num, HZ2, by first | rfl | trivial⟩
          case measure => simp [intOf]; omega
        | false =>
          obtain rfl : z2 = 2 * z := by rw [hws]; rfl
          clear hws
          go_wp2
          go_roundw
          case rel => exact ⟨k + 1, 2 * z, by omega, by omega, by go_num, by go_num, HZ2, by first | rfl | trivial⟩
          case measure => simp [intOf]; omega
      · obtain rfl : k = L := by omega
        have hzF : z = F := by rw [hzv.out, Nat.sub_self, Nat.pow_zero, Nat.div_one]
        subst hzF
        clear hzv hk hlt HF0 HWS HWC HQB
        generalize T.getD z false = tb at *
        go_wp2_with fail
        have hbz := below_drewN (Below.refl wr.heap.size wr) 1
        have HD := hideN (fun V' (hV : Below wr.heap.size wr V') => And.intro (HC.out V' (belNext HB8.out hV)).1 (And.intro (HC.out V' (belNext HB8.out hV)).2.1 (And.intro (HC.out V' (belNext HB8.out hV)).2.2 (HCF.out V' hV))))
        clear z0 z1 z2 q0 q1 q2
        obtain ⟨z0, z1, z2, y0⟩ := HD.out wr.drew hbz
        have hzM : z < M := HFM.out
        refine region_U (fin := 8) (S := fun V' => V'.cell? ⟨B3, 0, none⟩ = some (.int .i64 (k : Int)) ∧ V'.cell? ⟨B3, 1, none⟩ = some (.slice ao n cap) ∧ V'.cell? ⟨B3, 2, none⟩ = some (.int .i64 root) ∧ V'.cell? ⟨b6, z, none⟩ = some (.bool tb)) (by kernel_rfl) ⟨z0, z1, z2, y0⟩ (fun hHeld => ?_)
        clear hHeld
        refine takeU (i := 0) (v := .agg #[.int .i64 (k : Int), .slice ao n cap, .int .i64 root]) rfl (by rfl) (by kernel_rfl) (by kernel_rfl) (reach_one (by kernel_rfl)) (by kernel_rfl) (by kernel_rfl) (fun _ _ _ h => h) (Or.inl ⟨by rfl, fun w hS => by obtain ⟨z0, z1, z2, y0⟩ := hS; go_simp⟩) ⟨z0, z1, z2, y0⟩ ?_
        simp only [List.getElem_toArray, List.getElem_cons_zero, Act.put, List.setIfInBounds_toArray, List.set_cons_zero, List.set_cons_succ]
        refine takeU (i := 1) (v := .slice (some ⟨gw, 0, none⟩) k cw) rfl (by rfl) (by kernel_rfl) (by kernel_rfl) (reach_one (by kernel_rfl)) (by kernel_rfl) (by kernel_rfl) (fun _ _ _ h => h) (Or.inl ⟨by rfl, fun w hS => by obtain ⟨z0, z1, z2, y0⟩ := hS; go_simp⟩) ⟨z0, z1, z2, y0⟩ ?_
        simp only [List.getElem_toArray, List.getElem_cons_zero, List.getElem_cons_succ, Act.put, List.setIfInBounds_toArray, List.set_cons_zero, List.set_cons_succ]
        refine takeU (i := 3) (v := .slice (some ⟨b6, 0, none⟩) M c6) rfl (by rfl) (by kernel_rfl) (by kernel_rfl) (reach_one (by kernel_rfl)) (by kernel_rfl) (by kernel_rfl) (fun _ _ _ h => h) (Or.inl ⟨by rfl, fun w hS => by obtain ⟨z0, z1, z2, y0⟩ := hS; go_simp⟩) ⟨z0, z1, z2, y0⟩ ?_
        simp only [List.getElem_toArray, List.getElem_cons_zero, List.getElem_cons_succ, Act.put, List.setIfInBounds_toArray, List.set_cons_zero, List.set_cons_succ]
        refine takeU (i := 4) (v := .int .i64 (z : Int)) rfl (by rfl) (by kernel_rfl) (by kernel_rfl) (reach_one (by kernel_rfl)) (by kernel_rfl) (by kernel_rfl) (fun _ _ _ h => h) (Or.inl ⟨by rfl, fun w hS => by obtain ⟨z0, z1, z2, y0⟩ := hS; go_simp⟩) ⟨z0, z1, z2, y0⟩ ?_
        simp only [List.getElem_toArray, List.getElem_cons_zero, List.getElem_cons_succ, Act.put, List.setIfInBounds_toArray, List.set_cons_zero, List.set_cons_succ]
        refine takeU (i := 5) (v := .pointer (some ⟨b6, z, none⟩)) rfl (by rfl) (by kernel_rfl) (by kernel_rfl) (reach_one (by kernel_rfl)) (by kernel_rfl) (by kernel_rfl) (fun _ _ _ h => h) (Or.inl ⟨by rfl, fun w hS => by obtain ⟨z0, z1, z2, y0⟩ := hS; go_simp⟩) ⟨z0, z1, z2, y0⟩ ?_
        simp only [List.getElem_toArray, List.getElem_cons_zero, List.getElem_cons_succ, Act.put, List.setIfInBounds_toArray, List.set_cons_zero, List.set_cons_succ]
        refine takeU (i := 6) (v := .bool tb) rfl (by rfl) (by kernel_rfl) (by kernel_rfl) (reach_one (by kernel_rfl)) (by kernel_rfl) (by kernel_rfl) (fun _ _ _ h => h) (Or.inl ⟨by rfl, fun w hS => by obtain ⟨z0, z1, z2, y0⟩ := hS; go_simp⟩) ⟨z0, z1, z2, y0⟩ ?_
        simp only [List.getElem_toArray, List.getElem_cons_zero, List.getElem_cons_succ, Act.put, List.setIfInBounds_toArray, List.set_cons_zero, List.set_cons_succ]
        refine oneU (i := 2) (by kernel_rfl) rfl (by rfl) ?_
        simp only [List.getElem_toArray, List.getElem_cons_zero, List.getElem_cons_succ]
        go_simp
        refine (HII.out wr.drew (belNext HB8.out hbz)).mono ?_
        rintro e w9 ⟨rfl, hb9⟩
        have HBE := hideN (belNext HB1.out (belNext HB8.out (belNext hbz hb9)))
        obtain ⟨z0, z1, z2, y0⟩ := HD.out w9 (belNext hbz hb9)
        refine ⟨⟨z0, z1, z2, y0⟩, ?_⟩
        clear hb9
        refine takeU (i := 7) (v := .bool true) rfl (by rfl) (by kernel_rfl) (by kernel_rfl) (reach_one (by kernel_rfl)) (by kernel_rfl) (by kernel_rfl) (fun _ _ _ h => h) (Or.inl ⟨by rfl, fun w hS => by obtain ⟨z0, z1, z2, y0⟩ := hS; go_simp⟩) ⟨z0, z1, z2, y0⟩ ?_
        simp only [List.getElem_toArray, List.getElem_cons_zero, List.getElem_cons_succ, Act.put, List.setIfInBounds_toArray, List.set_cons_zero, List.set_cons_succ]
        refine oneU (i := 8) (by kernel_rfl) rfl (by rfl) ?_
        simp only [List.getElem_toArray, List.getElem_cons_zero, List.getElem_cons_succ]
        go_simp
        refine doneU (by kernel_rfl) ?_ _
        go_wp2
        go_ret
        exact ⟨rfl, HBE.out⟩

set_option maxRecDepth 100000 in
theorem fnBddOk_lifted (os : Os) (started : os.Started) (H : Type) (enc : TypeId × Value → H) :
    ReturnsInHanded {} Try.checked os 4 .any (Rows.fnBddOkSpec.pre6 enc Try.prog Try.f4 Rows.fnBddOkRow.domain false) (Rows.fnBddOkSpec.post enc Try.prog Try.f4 false true false false) := by
  refine returnsInHanded_of_change (C := Try.checked) own started (by kernel_rfl) Try.func4
    (ChangeSpec.witness6 (enc := enc) (C := Try.checked) false ⟨#[], #[.slice none 0 0], []⟩ 8 (by kernel_rfl) (by kernel_rfl) (by kernel_rfl) (by kernel_rfl)) ?_
  intro W base args ds gs before hval0 hW hcnd _
  have hval : ∀ (j : Nat) t v, Try.f4.params[j]? = some t → args[j]? = some v → Value.okWide Try.prog W .any base t v := hval0
  have hW' := hW
  obtain ⟨p, q, hA0, hV, rfl, hfz, hnd⟩ := hW
  have hA : DataW.TrodAll enc Try.prog W 0 (fun _ => true) true Try.f4.params.toList args.toList ds p := hA0
  rw [Try.params4] at hA hval
  obtain ⟨v0, vs0, d0, ds0, p0, q0, hargs, rfl, rfl, h0, r0⟩ := trodAll_cons hA
  obtain ⟨rfl, rfl, rfl⟩ := trodAll_nil r0
  obtain rfl : args = #[v0] := by cases args; simp_all
  obtain ⟨rfl, rfl⟩ := trodVars_none hV
  have k0 := h0
  have lt0 : ∀ x ∈ p0, x.block < W.heap.size := by obtain ⟨m, hm⟩ := k0; exact DataW.trod_lt m _ _ _ hm
  have hv0 := hval 0 22 v0 rfl rfl
  obtain ⟨ao, len, cap, rfl⟩ := okWide_slice Try.underlying22 hv0
  obtain ⟨fuel, hf⟩ := h0
  obtain ⟨bs, hbs, hml⟩ := isBytes_of_trod (by simpa [Value.cells] using hf)
  clear hA0 hval0
  refine (fnBddOk_walk _ bs W hbs (fun ao' n' cap' b off h1 h2 => by cases h1; subst h2; exact okWide_slice_lt Try.underlying22 hv0) hml).mono fun e W' ⟨he, bel⟩ => ?_
  subst he
  exact ⟨_, rfl, _, _, _, [], _, [], hW', trodAll_mk1 (shut_bool Try.underlying4 _), (trodAll_cons_mk (Below.trod laidOutN (by kernel_rfl) (of_decide_eq_true (by kernel_rfl)) k0 bel lt0) trodAll_mk0), rfl, bel.frame _, fun h => by cases h⟩

theorem fnBddOk_holds : Rows.FnBddOkSaid :=
  OpenClaim.holds_of_wide 4 Try.f4 rfl rfl rfl rfl rfl rfl rfl ⟨rfl, rfl, rfl, rfl, rfl⟩ rfl rfl rfl rfl rfl (by kernel_rfl) Try.func4 (by kernel_rfl)
    (of_decide_eq_true (by kernel_rfl)) (by unfold Func.isWrapper; first | (rw [if_pos (by decide +kernel)]; kernel_rfl) | (rw [if_neg (by decide +kernel)]; exact ⟨rfl, rfl⟩))
    (fun os started H enc _ => fnBddOk_lifted os started H enc)

end Go.Proofs.Ytmkbcfiechoebaa
