/-
  The law FnBddCount: of every drawn diagram, the program's number of ways is as many as its table says, and those with a variable so and not so are twice all. No condition: every argument that can be read.
-/
import Derived.Test.YtknpifjkllcdeaaBdDw
import Derived.Test.YtknpifjkllcdeaaBdPe
import Derived.Test.YtknpifjkllcdeaaBdJ
import Derived.Test.YtknpifjkllcdeaaRgB
import Derived.Test.YtknpifjkllcdeaaOpenB
namespace Go.Proofs.Ytknpifjkllcdeaa
open Go.ChangeShapes Go.WideShapes Go.ChangeAt Go.RowKit Go.Deep Go.Joins
set_option linter.unusedVariables false

attribute [local go_sem] Oper.semAt_some

set_option maxRecDepth 100000 in
set_option maxHeartbeats 16000000 in
theorem fnBddCount_walk (v : Value) (bs : List Int) (w : World) (hv : IsBytes w v bs) (hal : ∀ ao n cap b off, v = .slice ao n cap → ao = some ⟨b, off, none⟩ → b < w.heap.size) (hml : bs.length ≤ maxLen) :
    Calls Try.prog 13 #[v] w fun e w' => e = .returned (.bool true) ∧ Below w.heap.size w w' := by
  unfold maxLen at hml
  have HDR := hideN (fun (h : bs.length ≤ 1048576) => drawBddWith_any v bs w hv h hal)
  obtain ⟨aoc, capc, rfl, _⟩ := hv
  clear hal
  by_cases hbig : bs.length ≤ 1048576
  case neg =>
    have d1 : decide ((1048576 : Int) < (bs.length : Int)) = true := by simp; omega
    go_enter Try.func13, Try.ntmps13
    go_wp2_with fail
    go_ret
    exact ⟨rfl, Below.refl _ _⟩
  have d1 : decide ((1048576 : Int) < (bs.length : Int)) = false := by simp; omega
  have HDW := hideN (HDR.out hbig)
  clear HDR
  go_enter Try.func13, Try.ntmps13
  go_wp2_with fail
  refine HDW.out.mono ?_
  rintro e w0 ⟨vi, root, ao, n, cap, ns, u, so, rfl, hsv, hsr, hn80, hnl, hsm, hrow, hb0, hul, huh⟩
  have hN0 : Nds w0 ao n cap ns := nds_of_own hrow hnl
  have H64 : ∀ q ∈ ns, I64N q := fun q hq => smN64 (hsm q hq)
  have HR := sm64 hsr
  obtain ⟨W1, hW1⟩ : ∃ W1, W1 = w0.alloc (.cells #[.int .i64 vi, .slice ao n cap, .int .i64 root] 25) := ⟨_, rfl⟩
  have HK1 : Hid (BlkD W1 w0.heap.size (.int .i64 vi) (.slice ao n cap) (.int .i64 root)) := by rw [hW1]; exact BlkD.new _ _ _ _
  have HB1 : Hid (Below w.heap.size w W1) := by rw [hW1]; exact belNext hb0 (belOne _ _)
  have hN1 : Nds W1 ao n cap ns := by rw [hW1]; exact hN0.below (belOne _ _)
  have HSC := hideN (fun V (hV : Below W1.heap.size W1 V) => specBddCount_any vi root ao n cap ns V (hN1.below hV) H64 HR (by omega))
  have HIC := hideN (fun V (hV : Below W1.heap.size W1 V) => implBddCount_any vi root ao n cap ns V (hN1.below hV) H64 HR)
  have HIT := hideN (fun V (hV : Below W1.heap.size W1 V) => implBddTable_any vi root ao n cap ns V (hN1.below hV) H64 HR)
  have HIW := hideN (fun (so : Bool) V (hV : Below W1.heap.size W1 V) => implBddWith_any vi root u so ao n cap ns V (hN1.below hV) H64 HR)
  have HW1 := hideN hW1
  have hvl := hsv.1
  have hvh := hsv.2
  have c0 := HK1.out.c0
  have c1 := HK1.out.c1
  have c2 := HK1.out.c2
  have c3 := HK1.out.lt
  clear hN0 hN1 H64 HR hsm hrow hW1 hb0 hsv hsr HDW
  go_wp2_with fail
  try rw [← HW1.out]
  obtain ⟨B3, hB3⟩ : ∃ B3, w0.heap.size = B3 := ⟨_, rfl⟩
  rw [hB3] at HK1 c0 c1 c2 c3 ⊢
  refine (HIC.out W1 (Below.refl _ _)).mono ?_
  rintro e w3 ⟨rfl, hb3⟩
  obtain ⟨cz, hcz⟩ : ∃ cz, countZ vi ns root = cz := ⟨_, rfl⟩
  rw [hcz]
  have HCZ := hideN hcz
  have HBD := hideN (count_neg (vi := vi) (ns := ns) (root := root))
  rw [hcz] at HBD
  have HB3 := hideN hb3
  have HK3 := hideN (HK1.out.below hb3)
  clear hb3 c0 c1 c2 c3 hcz hB3
  have c0 := HK3.out.c0
  have c1 := HK3.out.c1
  have c2 := HK3.out.c2
  have c3 := HK3.out.lt
  go_wp2_with fail
  refine (HSC.out w3 HB3.out).mono ?_
  rintro e w4 ⟨rfl, hb4⟩
  rw [HCZ.out]
  have HB4 := hideN (belNext HB3.out hb4)
  have HK4 := hideN (HK3.out.below hb4)
  clear hb4 c0 c1 c2 c3
  have c0 := HK4.out.c0
  have c1 := HK4.out.c1
  have c2 := HK4.out.c2
  have c3 := HK4.out.lt
  by_cases h1 : cz < 0
  · clear HIW HIT HIC
    go_wp2_with fail
    refine (HSC.out w4 HB4.out).mono ?_
    rintro e w5 ⟨rfl, hb5⟩
    rw [HCZ.out]
    have HBE := hideN (belNext HB1.out (belNext HB4.out hb5))
    clear hb5 c0 c1 c2 c3
    go_wp2_with fail
    go_ret
    exact ⟨rfl, HBE.out⟩
  by_cases h2 : u < 0
  · clear HIW HIT HIC
    go_wp2_with fail
    refine (HSC.out w4 HB4.out).mono ?_
    rintro e w5 ⟨rfl, hb5⟩
    rw [HCZ.out]
    have HBE := hideN (belNext HB1.out (belNext HB4.out hb5))
    clear hb5 c0 c1 c2 c3
    go_wp2_with fail
    go_ret
    exact ⟨rfl, HBE.out⟩
  by_cases h3 : vi ≤ u
  · clear HIW HIT HIC
    go_wp2_with fail
    refine (HSC.out w4 HB4.out).mono ?_
    rintro e w5 ⟨rfl, hb5⟩
    rw [HCZ.out]
    have HBE := hideN (belNext HB1.out (belNext HB4.out hb5))
    clear hb5 c0 c1 c2 c3
    go_wp2_with fail
    go_ret
    exact ⟨rfl, HBE.out⟩
  have hbd := HBD.out (by omega)
  obtain ⟨V, rfl, h6, -⟩ := bdd_split hbd
  obtain ⟨uu, rfl⟩ : ∃ uu : Nat, u = (uu : Int) := ⟨u.toNat, by omega⟩
  have huV : uu < V := by omega
  have hvar : varB (V : Int) (uu : Int) = true := by unfold varB; simp; omega
  have HWT : Hid (∀ so W, Below W1.heap.size W1 W → Calls Try.prog 50 #[.agg #[.int .i64 (V : Int), .slice ao n cap, .int .i64 root], .int .i64 (uu : Int), .bool so] W (BddPost (V : Int) (drawB V 0 (withT (V : Int) ns root (uu : Int) so) []).1 (drawB V 0 (withT (V : Int) ns root (uu : Int) so) []).2 W)) := fun so W hW => by
    have h := HIW.out so W hW
    rw [hbd, hvar] at h
    unfold AnsPost ansOf at h
    rw [Bool.and_self, if_pos rfl, Int.toNat_natCast] at h
    exact h
  have hct := countZ_tab hbd
  rw [HCZ.out] at hct
  have h2c := count_two h6 hbd huV
  rw [HCZ.out] at h2c
  have HTL := tabN_length V ns root
  have hTS : tabS (V : Int) ns root = tabN V ns root := by unfold tabS; rw [hbd, if_pos rfl, Int.toNat_natCast]
  rw [hTS] at HIT
  generalize tabN V ns root = T at *
  obtain ⟨c, hc⟩ : ∃ c : Nat, T.count true = c := ⟨_, rfl⟩
  rw [hc] at hct
  subst hct
  have hMp : 2 ^ V ≤ 64 := by show _ ≤ 2 ^ 6; exact Nat.pow_le_pow_right (by decide) h6
  obtain ⟨M, hM⟩ : ∃ M, T.length = M := ⟨_, rfl⟩
  have hM64 : M ≤ 64 := by omega
  have hM0 : 0 < M := by have : 0 < 2 ^ V := Nat.pow_pos (by decide); omega
  have hcM : c ≤ M := by rw [← hc, ← hM]; exact List.count_le_length
  have HTC := hideN (take_count T)
  have HCT : Hid ((T.take M).count true = c) := by show _ = _; rw [← hM, List.take_length]; exact hc
  have HFT := hideN (draw_fit (t := withT (V : Int) ns root (uu : Int) true) h6)
  have HFF := hideN (draw_fit (t := withT (V : Int) ns root (uu : Int) false) h6)
  have hzT : 0 ≤ countZ (V : Int) (drawB V 0 (withT (V : Int) ns root (uu : Int) true) []).1 (drawB V 0 (withT (V : Int) ns root (uu : Int) true) []).2 ∧ countZ (V : Int) (drawB V 0 (withT (V : Int) ns root (uu : Int) true) []).1 (drawB V 0 (withT (V : Int) ns root (uu : Int) true) []).2 ≤ 64 := count_small h6 (bdd_draw V _ h6 (withT_len _ _ _ _ _))
  have hzF : 0 ≤ countZ (V : Int) (drawB V 0 (withT (V : Int) ns root (uu : Int) false) []).1 (drawB V 0 (withT (V : Int) ns root (uu : Int) false) []).2 ∧ countZ (V : Int) (drawB V 0 (withT (V : Int) ns root (uu : Int) false) []).1 (drawB V 0 (withT (V : Int) ns root (uu : Int) false) []).2 ≤ 64 := count_small h6 (bdd_draw V _ h6 (withT_len _ _ _ _ _))
  have HWTt := hideN (HWT.out true)
  have HWTf := hideN (HWT.out false)
  generalize drawB V 0 (withT (V : Int) ns root (uu : Int) true) [] = DT at *
  generalize drawB V 0 (withT (V : Int) ns root (uu : Int) false) [] = DF at *
  obtain ⟨lT, rT⟩ := DT
  obtain ⟨lF, rF⟩ := DF
  simp only at h2c HFT HFF hzT hzF HWTt HWTf
  have HCT2 := hideN (fun (W : World) a m cc (hN : Nds W a m cc lT) => implBddCount_any (V : Int) rT a m cc lT W hN (fun q hq => fit64n (HFT.out.1 q hq)) (by unfold I64; have := HFT.out.2.2; omega))
  have HCF2 := hideN (fun (W : World) a m cc (hN : Nds W a m cc lF) => implBddCount_any (V : Int) rF a m cc lF W hN (fun q hq => fit64n (HFF.out.1 q hq)) (by unfold I64; have := HFF.out.2.2; omega))
  generalize countZ (V : Int) lT rT = zT at *
  generalize countZ (V : Int) lF rF = zF at *
  have HS2 : Hid (zT + zF = 2 * (c : Int)) := h2c
  have hw1 : IntKind.i64.wrap (zT + zF) = 2 * (c : Int) := by rw [IntKind.wrap_i64]; omega
  have hw2 : IntKind.i64.wrap (2 * (c : Int)) = 2 * (c : Int) := by rw [IntKind.wrap_i64]; omega
  have hzT0 := hzT.1
  have hzT1 := hzT.2
  have hzF0 := hzF.1
  have hzF1 := hzF.2
  clear hbd hvar HWT HIW hTS HTL HBD HSC HIC h2c hzT hzF hc hMp hvl hvh hul huh
  have HM := hideN hM
  clear hM
  go_wp2_with fail
  refine (HIT.out w4 HB4.out).mono ?_
  rintro e w5 ⟨at5, c5, rfl, ho5, hb5⟩
  have hT5 : ∃ b5, at5 = some ⟨b5, 0, none⟩ := by
    obtain ⟨g, cp, he, _⟩ := ho5.cons_form (by rw [HM.out]; exact hM0)
    injection he with e1 e2 e3
    exact ⟨g, e1⟩
  obtain ⟨b5, rfl⟩ := hT5
  rw [HM.out] at ho5 ⊢
  have HB5 := hideN (belNext HB4.out hb5)
  have HK5 := hideN (HK4.out.below hb5)
  have HO5 := hideN ho5
  clear hb5 c0 c1 c2 c3 ho5
  go_wp2_with fail
  go_loopw [8, 9] (fun k i wr => ∃ j z : Nat, j ≤ M ∧ z ≤ j ∧ k = .int .i64 (z : Int) ∧ i = .int .i64 (j : Int) ∧ Hid ((T.take j).count true = z) ∧ wr = w5) (fun _ i _ => M - (intOf i).toNat)
  case atStart => exact ⟨0, 0, Nat.zero_le _, Nat.le_refl _, rfl, rfl, by show _ = _; simp, rfl⟩
  case round =>
    obtain ⟨j, z, hj, hz, rfl, rfl, hzc, rfl⟩ := hrel
    by_cases hlt : j < M
    · have hcell := (ownb_cell HO5.out (i := j) (by rw [HM.out]; exact hlt))
      have hc1 := hcell.1
      have htc := HTC.out j (by rw [HM.out]; exact hlt)
      rw [hzc.out] at htc
      have hform := hcell.2.2
      clear hcell
      generalize T.getD j false = bb at *
      cases bb with
      | true =>
        have HZ2 : Hid ((T.take (j + 1)).count true = z + 1) := by show _ = _; rw [htc]; rfl
        clear htc
        go_wp2
        go_roundw
        case rel => exact ⟨j + 1, z + 1, by omega, by omega, by go_num, by go_num, HZ2, by first | rfl | trivial⟩
        case measure => simp [intOf]; omega
      | false =>
        have HZ2 : Hid ((T.take (j + 1)).count true = z) := by show _ = _; rw [htc]; rfl
        clear htc
        go_wp2
        go_roundw
        case rel => exact ⟨j + 1, z, by omega, by omega, by go_num, by go_num, HZ2, by first | rfl | trivial⟩
        case measure => simp [intOf]; omega
    · obtain rfl : j = M := by omega
      have hzz : z = c := by rw [← hzc.out]; exact HCT.out
      subst hzz
      clear hzc hj hlt hz
      have HVC : Hid (∀ V', Below wr.heap.size wr V' → V'.cell? ⟨B3, 0, none⟩ = some (.int .i64 (V : Int)) ∧ V'.cell? ⟨B3, 1, none⟩ = some (.slice ao n cap) ∧ V'.cell? ⟨B3, 2, none⟩ = some (.int .i64 root)) := fun V' hV => HK5.out.cells hV
      go_wp2_with fail
      obtain ⟨z0, z1, z2⟩ := HVC.out wr.drew (below_drewN (Below.refl _ _) 1)
      refine region_U (fin := 17) (S := fun V' => V'.cell? ⟨B3, 0, none⟩ = some (.int .i64 (V : Int)) ∧ V'.cell? ⟨B3, 1, none⟩ = some (.slice ao n cap) ∧ V'.cell? ⟨B3, 2, none⟩ = some (.int .i64 root)) (by kernel_rfl) ⟨z0, z1, z2⟩ (fun hHeld => ?_)
      clear hHeld
      refine takeU (i := 0) (v := .int .i64 (z : Int)) rfl (by rfl) (by kernel_rfl) (by kernel_rfl) (reach_one (by kernel_rfl)) (by kernel_rfl) (by kernel_rfl) (fun _ _ _ h => h) (Or.inl ⟨by rfl, fun w hS => by obtain ⟨z0, z1, z2⟩ := hS; go_simp⟩) ⟨z0, z1, z2⟩ ?_
      simp only [List.getElem_toArray, List.getElem_cons_zero, Act.put, List.setIfInBounds_toArray, List.set_cons_zero, List.set_cons_succ]
      refine takeU (i := 1) (v := .int .i64 (z : Int)) rfl (by rfl) (by kernel_rfl) (by kernel_rfl) (reach_one (by kernel_rfl)) (by kernel_rfl) (by kernel_rfl) (fun _ _ _ h => h) (Or.inl ⟨by rfl, fun w hS => by obtain ⟨z0, z1, z2⟩ := hS; go_simp⟩) ⟨z0, z1, z2⟩ ?_
      simp only [List.getElem_toArray, List.getElem_cons_zero, List.getElem_cons_succ, Act.put, List.setIfInBounds_toArray, List.set_cons_zero, List.set_cons_succ]
      refine takeU (i := 2) (v := .bool true) rfl (by rfl) (by kernel_rfl) (by kernel_rfl) (reach_one (by kernel_rfl)) (by kernel_rfl) (by kernel_rfl) (fun _ _ _ h => h) (Or.inl ⟨by rfl, fun w hS => by obtain ⟨z0, z1, z2⟩ := hS; go_simp⟩) ⟨z0, z1, z2⟩ ?_
      simp only [List.getElem_toArray, List.getElem_cons_zero, List.getElem_cons_succ, Act.put, List.setIfInBounds_toArray, List.set_cons_zero, List.set_cons_succ]
      refine takeU (i := 3) (v := .bool true) rfl (by rfl) (by kernel_rfl) (by kernel_rfl) (reach_one (by kernel_rfl)) (by kernel_rfl) (by kernel_rfl) (fun _ _ _ h => h) (Or.inl ⟨by rfl, fun w hS => by obtain ⟨z0, z1, z2⟩ := hS; go_simp⟩) ⟨z0, z1, z2⟩ ?_
      simp only [List.getElem_toArray, List.getElem_cons_zero, List.getElem_cons_succ, Act.put, List.setIfInBounds_toArray, List.set_cons_zero, List.set_cons_succ]
      refine takeU (i := 4) (v := .agg #[.int .i64 (V : Int), .slice ao n cap, .int .i64 root]) rfl (by rfl) (by kernel_rfl) (by kernel_rfl) (reach_one (by kernel_rfl)) (by kernel_rfl) (by kernel_rfl) (fun _ _ _ h => h) (Or.inl ⟨by rfl, fun w hS => by obtain ⟨z0, z1, z2⟩ := hS; go_simp⟩) ⟨z0, z1, z2⟩ ?_
      simp only [List.getElem_toArray, List.getElem_cons_zero, List.getElem_cons_succ, Act.put, List.setIfInBounds_toArray, List.set_cons_zero, List.set_cons_succ]
      refine takeU (i := 5) (v := .int .i64 (uu : Int)) rfl (by rfl) (by kernel_rfl) (by kernel_rfl) (reach_one (by kernel_rfl)) (by kernel_rfl) (by kernel_rfl) (fun _ _ _ h => h) (Or.inl ⟨by rfl, fun w hS => by obtain ⟨z0, z1, z2⟩ := hS; go_simp⟩) ⟨z0, z1, z2⟩ ?_
      simp only [List.getElem_toArray, List.getElem_cons_zero, List.getElem_cons_succ, Act.put, List.setIfInBounds_toArray, List.set_cons_zero, List.set_cons_succ]
      refine takeU (i := 8) (v := .agg #[.int .i64 (V : Int), .slice ao n cap, .int .i64 root]) rfl (by rfl) (by kernel_rfl) (by kernel_rfl) (reach_one (by kernel_rfl)) (by kernel_rfl) (by kernel_rfl) (fun _ _ _ h => h) (Or.inl ⟨by rfl, fun w hS => by obtain ⟨z0, z1, z2⟩ := hS; go_simp⟩) ⟨z0, z1, z2⟩ ?_
      simp only [List.getElem_toArray, List.getElem_cons_zero, List.getElem_cons_succ, Act.put, List.setIfInBounds_toArray, List.set_cons_zero, List.set_cons_succ]
      refine takeU (i := 9) (v := .int .i64 (uu : Int)) rfl (by rfl) (by kernel_rfl) (by kernel_rfl) (reach_one (by kernel_rfl)) (by kernel_rfl) (by kernel_rfl) (fun _ _ _ h => h) (Or.inl ⟨by rfl, fun w hS => by obtain ⟨z0, z1, z2⟩ := hS; go_simp⟩) ⟨z0, z1, z2⟩ ?_
      simp only [List.getElem_toArray, List.getElem_cons_zero, List.getElem_cons_succ, Act.put, List.setIfInBounds_toArray, List.set_cons_zero, List.set_cons_succ]
      refine takeU (i := 13) (v := .int .i64 (z : Int)) rfl (by rfl) (by kernel_rfl) (by kernel_rfl) (reach_one (by kernel_rfl)) (by kernel_rfl) (by kernel_rfl) (fun _ _ _ h => h) (Or.inl ⟨by rfl, fun w hS => by obtain ⟨z0, z1, z2⟩ := hS; go_simp⟩) ⟨z0, z1, z2⟩ ?_
      simp only [List.getElem_toArray, List.getElem_cons_zero, List.getElem_cons_succ, Act.put, List.setIfInBounds_toArray, List.set_cons_zero, List.set_cons_succ]
      refine takeU (i := 14) (v := .int .i64 (2 * (z : Int))) rfl (by rfl) (by kernel_rfl) (by kernel_rfl) (reach_one (by kernel_rfl)) (by kernel_rfl) (by kernel_rfl) (fun _ _ _ h => h) (Or.inl ⟨by rfl, fun w hS => by obtain ⟨z0, z1, z2⟩ := hS; go_simp⟩) ⟨z0, z1, z2⟩ ?_
      simp only [List.getElem_toArray, List.getElem_cons_zero, List.getElem_cons_succ, Act.put, List.setIfInBounds_toArray, List.set_cons_zero, List.set_cons_succ]
      refine oneU (i := 6) (by kernel_rfl) rfl (by rfl) ?_
      simp only [List.getElem_toArray, List.getElem_cons_zero, List.getElem_cons_succ]
      go_simp
      have hbz := below_drewN (Below.refl wr.heap.size wr) 1
      refine (HWTt.out wr.drew (belNext HB5.out hbz)).mono ?_
      rintro e w6 ⟨a6, n6, c6, rfl, hn6, hr6, hb6⟩
      have HB6 := hideN (belNext hbz hb6)
      have HN6 := hideN (nds_of_own hr6 hn6)
      obtain ⟨z0, z1, z2⟩ := HVC.out w6 HB6.out
      refine ⟨⟨z0, z1, z2⟩, ?_⟩
      clear hbz hb6 hr6 hn6
      refine oneU (i := 7) (by kernel_rfl) rfl (by rfl) ?_
      simp only [List.getElem_toArray, List.getElem_cons_zero, List.getElem_cons_succ]
      go_simp
      refine (HCT2.out w6 a6 n6 c6 HN6.out).mono ?_
      rintro e w7 ⟨rfl, hb7⟩
      have HB7 := hideN (belNext HB6.out hb7)
      obtain ⟨z0, z1, z2⟩ := HVC.out w7 HB7.out
      refine ⟨⟨z0, z1, z2⟩, ?_⟩
      clear hb7
      refine oneU (i := 10) (by kernel_rfl) rfl (by rfl) ?_
      simp only [List.getElem_toArray, List.getElem_cons_zero, List.getElem_cons_succ]
      go_simp
      refine (HWTf.out w7 (belNext HB5.out HB7.out)).mono ?_
      rintro e w8 ⟨a8, n8, c8, rfl, hn8, hr8, hb8⟩
      have HB8 := hideN (belNext HB7.out hb8)
      have HN8 := hideN (nds_of_own hr8 hn8)
      obtain ⟨z0, z1, z2⟩ := HVC.out w8 HB8.out
      refine ⟨⟨z0, z1, z2⟩, ?_⟩
      clear hb8 hr8 hn8
      refine oneU (i := 11) (by kernel_rfl) rfl (by rfl) ?_
      simp only [List.getElem_toArray, List.getElem_cons_zero, List.getElem_cons_succ]
      go_simp
      refine (HCF2.out w8 a8 n8 c8 HN8.out).mono ?_
      rintro e w9 ⟨rfl, hb9⟩
      have HB9 := hideN (belNext HB8.out hb9)
      have HBE := hideN (belNext HB1.out (belNext HB5.out HB9.out))
      obtain ⟨z0, z1, z2⟩ := HVC.out w9 HB9.out
      refine ⟨⟨z0, z1, z2⟩, ?_⟩
      clear hb9
      refine takeU (i := 12) (v := .int .i64 (2 * (z : Int))) rfl (by rfl) (by kernel_rfl) (by kernel_rfl) (reach_one (by kernel_rfl)) (by kernel_rfl) (by kernel_rfl) (fun _ _ _ h => h) (Or.inl ⟨by rfl, fun w hS => by obtain ⟨z0, z1, z2⟩ := hS; go_simp⟩) ⟨z0, z1, z2⟩ ?_
      simp only [List.getElem_toArray, List.getElem_cons_zero, List.getElem_cons_succ, Act.put, List.setIfInBounds_toArray, List.set_cons_zero, List.set_cons_succ]
      refine takeU (i := 15) (v := .bool true) rfl (by rfl) (by kernel_rfl) (by kernel_rfl) (reach_one (by kernel_rfl)) (by kernel_rfl) (by kernel_rfl) (fun _ _ _ h => h) (Or.inl ⟨by rfl, fun w hS => by obtain ⟨z0, z1, z2⟩ := hS; go_simp⟩) ⟨z0, z1, z2⟩ ?_
      simp only [List.getElem_toArray, List.getElem_cons_zero, List.getElem_cons_succ, Act.put, List.setIfInBounds_toArray, List.set_cons_zero, List.set_cons_succ]
      refine takeU (i := 16) (v := .bool true) rfl (by rfl) (by kernel_rfl) (by kernel_rfl) (reach_one (by kernel_rfl)) (by kernel_rfl) (by kernel_rfl) (fun _ _ _ h => h) (Or.inl ⟨by rfl, fun w hS => by obtain ⟨z0, z1, z2⟩ := hS; go_simp⟩) ⟨z0, z1, z2⟩ ?_
      simp only [List.getElem_toArray, List.getElem_cons_zero, List.getElem_cons_succ, Act.put, List.setIfInBounds_toArray, List.set_cons_zero, List.set_cons_succ]
      refine oneU (i := 17) (by kernel_rfl) rfl (by rfl) ?_
      simp only [List.getElem_toArray, List.getElem_cons_zero, List.getElem_cons_succ]
      go_simp
      refine doneU (by kernel_rfl) ?_ _
      go_wp2
      go_ret
      exact ⟨rfl, HBE.out⟩

set_option maxRecDepth 100000 in
theorem fnBddCount_lifted (os : Os) (started : os.Started) (H : Type) (enc : TypeId × Value → H) :
    ReturnsInHanded {} Try.checked os 13 .any (Rows.fnBddCountSpec.pre6 enc Try.prog Try.f13 Rows.fnBddCountRow.domain false) (Rows.fnBddCountSpec.post enc Try.prog Try.f13 false true false false) := by
  refine returnsInHanded_of_change (C := Try.checked) own started (by kernel_rfl) Try.func13
    (ChangeSpec.witness6 (enc := enc) (C := Try.checked) false ⟨#[], #[.slice none 0 0], []⟩ 8 (by kernel_rfl) (by kernel_rfl) (by kernel_rfl) (by kernel_rfl)) ?_
  intro W base args ds gs before hval0 hW hcnd _
  have hval : ∀ (j : Nat) t v, Try.f13.params[j]? = some t → args[j]? = some v → Value.okWide Try.prog W .any base t v := hval0
  have hW' := hW
  obtain ⟨p, q, hA0, hV, rfl, hfz, hnd⟩ := hW
  have hA : DataW.TrodAll enc Try.prog W 0 (fun _ => true) true Try.f13.params.toList args.toList ds p := hA0
  rw [Try.params13] at hA hval
  obtain ⟨v0, vs0, d0, ds0, p0, q0, hargs, rfl, rfl, h0, r0⟩ := trodAll_cons hA
  obtain ⟨rfl, rfl, rfl⟩ := trodAll_nil r0
  obtain rfl : args = #[v0] := by cases args; simp_all
  obtain ⟨rfl, rfl⟩ := trodVars_none hV
  have k0 := h0
  have lt0 : ∀ x ∈ p0, x.block < W.heap.size := by obtain ⟨m, hm⟩ := k0; exact DataW.trod_lt m _ _ _ hm
  have hv0 := hval 0 46 v0 rfl rfl
  obtain ⟨ao, len, cap, rfl⟩ := okWide_slice Try.underlying46 hv0
  obtain ⟨fuel, hf⟩ := h0
  obtain ⟨bs, hbs, hml⟩ := isBytes_of_trod (by simpa [Value.cells] using hf)
  clear hA0 hval0
  refine (fnBddCount_walk _ bs W hbs (fun ao' n' cap' b off h1 h2 => by cases h1; subst h2; exact okWide_slice_lt Try.underlying46 hv0) hml).mono fun e W' ⟨he, bel⟩ => ?_
  subst he
  exact ⟨_, rfl, _, _, _, [], _, [], hW', trodAll_mk1 (shut_bool Try.underlying4 _), (trodAll_cons_mk (Below.trod laidOutN (by kernel_rfl) (of_decide_eq_true (by kernel_rfl)) k0 bel lt0) trodAll_mk0), rfl, bel.frame _, fun h => by cases h⟩

theorem fnBddCount_holds : Rows.FnBddCountSaid :=
  OpenClaim.holds_of_wide 13 Try.f13 rfl rfl rfl rfl rfl rfl rfl ⟨rfl, rfl, rfl, rfl, rfl⟩ rfl rfl rfl rfl rfl (by kernel_rfl) Try.func13 (by kernel_rfl)
    (of_decide_eq_true (by kernel_rfl)) (by unfold Func.isWrapper; first | (rw [if_pos (by decide +kernel)]; kernel_rfl) | (rw [if_neg (by decide +kernel)]; exact ⟨rfl, rfl⟩))
    (fun os started H enc _ => fnBddCount_lifted os started H enc)

end Go.Proofs.Ytknpifjkllcdeaa
