/-
  The law FnBddNeeds: of every drawn diagram, told a variable so and not so it is the same just for those variables that the program says do not matter. No condition: every argument that can be read.
-/
import Derived.Test.YtknpifjkllcdeaaBdDv
import Derived.Test.YtknpifjkllcdeaaBdPc
import Derived.Test.YtknpifjkllcdeaaBdRg
import Derived.Test.YtknpifjkllcdeaaBdNi
import Derived.Test.YtknpifjkllcdeaaOpenB
namespace Go.Proofs.Ytknpifjkllcdeaa
open Go.ChangeShapes Go.WideShapes Go.ChangeAt Go.RowKit Go.Deep Go.Joins
set_option linter.unusedVariables false

attribute [local go_sem] Oper.semAt_some

set_option maxRecDepth 100000 in
set_option maxHeartbeats 8000000 in
theorem fnBddNeeds_walk (v : Value) (bs : List Int) (w : World) (hv : IsBytes w v bs) (hal : ∀ ao n cap b off, v = .slice ao n cap → ao = some ⟨b, off, none⟩ → b < w.heap.size) (hml : bs.length ≤ maxLen) :
    Calls Try.prog 14 #[v] w fun e w' => e = .returned (.bool true) ∧ Below w.heap.size w w' := by
  unfold maxLen at hml
  have HDR := hideN (fun (h : bs.length ≤ 1048576) => drawBddNeeds_any v bs w hv h hal)
  obtain ⟨aoc, capc, rfl, _⟩ := hv
  clear hal
  by_cases hbig : bs.length ≤ 1048576
  case neg =>
    have d1 : decide ((1048576 : Int) < (bs.length : Int)) = true := by simp; omega
    go_enter Try.func14, Try.ntmps14
    go_wp2_with fail
    go_ret
    exact ⟨rfl, Below.refl _ _⟩
  have d1 : decide ((1048576 : Int) < (bs.length : Int)) = false := by simp; omega
  have HDW := hideN (HDR.out hbig)
  clear HDR
  go_enter Try.func14, Try.ntmps14
  go_wp2_with fail
  refine HDW.out.mono ?_
  rintro e w0 ⟨vi, root, ao, n, cap, ns, rfl, hsv, hsr, hn80, hnl, hsm, hrow, hb0⟩
  have hN0 : Nds w0 ao n cap ns := nds_of_own hrow hnl
  have H64 : ∀ q ∈ ns, I64N q := fun q hq => smN64 (hsm q hq)
  have HR := sm64 hsr
  obtain ⟨W1, hW1⟩ : ∃ W1, W1 = w0.alloc (.cells #[.int .i64 vi, .slice ao n cap, .int .i64 root] 25) := ⟨_, rfl⟩
  have HK1 : Hid (BlkD W1 w0.heap.size (.int .i64 vi) (.slice ao n cap) (.int .i64 root)) := by rw [hW1]; exact BlkD.new _ _ _ _
  have HB1 : Hid (Below w.heap.size w W1) := by rw [hW1]; exact belNext hb0 (belOne _ _)
  have hN1 : Nds W1 ao n cap ns := by rw [hW1]; exact hN0.below (belOne _ _)
  have HIF := hideN (fun V (hV : Below W1.heap.size W1 V) => implBddNeeds_any vi root ao n cap ns V (hN1.below hV) H64 HR)
  have HSF := hideN (fun V (hV : Below W1.heap.size W1 V) => specBddNeeds_any vi root ao n cap ns V (hN1.below hV) H64 HR (by omega))
  have HSO := hideN (fun V (hV : Below W1.heap.size W1 V) => specBddOk_any vi root ao n cap ns V (hN1.below hV) H64 HR (by omega))
  have HIW := hideN (fun (u : Int) (so : Bool) V (hV : Below W1.heap.size W1 V) => implBddWith_any vi root u so ao n cap ns V (hN1.below hV) H64 HR)
  have HLE := hideN (needsZ_le vi ns root)
  have HW1 := hideN hW1
  have c0 := HK1.out.c0
  have c1 := HK1.out.c1
  have c2 := HK1.out.c2
  have c3 := HK1.out.lt
  clear hN0 hN1 H64 HR hsm hrow hW1 hb0 hsv hsr HDW
  go_wp2_with fail
  try rw [← HW1.out]
  refine (HIF.out W1 (Below.refl _ _)).mono ?_
  rintro e w2 ⟨a2, c2', rfl, ho2, hb2⟩
  have HO2 := hideN ho2
  have HB2 := hideN hb2
  have HK2 := hideN (HK1.out.below hb2)
  clear ho2 hb2 c0 c1 c2 c3
  have c0 := HK2.out.c0
  have c1 := HK2.out.c1
  have c2 := HK2.out.c2
  have c3 := HK2.out.lt
  go_wp2_with fail
  refine (HSF.out w2 HB2.out).mono ?_
  rintro e w3 ⟨a3, c3', rfl, ho3, hb3⟩
  have HO3 := hideN ho3
  have HB3 := hideN (belNext HB2.out hb3)
  have HO23 := hideN (HO2.out.below hb3)
  have HK3 := hideN (HK2.out.below hb3)
  clear ho3 hb3 c0 c1 c2 c3
  have c0 := HK3.out.c0
  have c1 := HK3.out.c1
  have c2 := HK3.out.c2
  have c3 := HK3.out.lt
  obtain ⟨L, hL⟩ : ∃ L, needsZ vi ns root = L := ⟨_, rfl⟩
  obtain ⟨m, hm⟩ : ∃ m, L.length = m := ⟨_, rfl⟩
  rw [hL, hm]
  rw [hL, hm] at HO2 HO3 HO23
  rw [hL] at HLE
  rw [hm] at HLE
  have HL := hideN hL
  have HM := hideN hm
  have hm64 : m ≤ 64 := HLE.out
  have HRG := hideN (fun (V : World) (h : Below w3.heap.size w3 V) a4 c4 (h4 : IsInts V (.slice a4 m c4) L) => rgInts_same (.slice a2 m c2') (.slice a4 m c4) L V (HO23.out.below h).isInts h4 (by have := HM.out; unfold maxLen; omega))
  clear hL hm
  go_wp2_with fail
  refine (HRG.out w3 (Below.refl _ _) a3 c3' HO3.out.isInts).mono ?_
  rintro e w4 ⟨rfl, q4, rfl⟩
  have hb4 : Below w3.heap.size w3 (w3.drewN q4) := below_drewN (Below.refl _ _) q4
  have HB4 := hideN (belNext HB3.out hb4)
  have HB34 := hideN hb4
  have HK4 := hideN (HK3.out.below hb4)
  clear hb4 c0 c1 c2 c3
  generalize w3.drewN q4 = w4 at *
  have c0 := HK4.out.c0
  have c1 := HK4.out.c1
  have c2 := HK4.out.c2
  have c3 := HK4.out.lt
  go_wp2_with fail
  refine (HSO.out w4 HB4.out).mono ?_
  rintro e w5 ⟨rfl, hb5⟩
  have HB5 := hideN (belNext HB4.out hb5)
  have HB35 := hideN (belNext HB34.out hb5)
  have HK5 := hideN (HK4.out.below hb5)
  clear hb5 c0 c1 c2 c3
  have c0 := HK5.out.c0
  have c1 := HK5.out.c1
  have c2 := HK5.out.c2
  have c3 := HK5.out.lt
  cases hbd : bddB vi ns root with
  | false =>
    go_wp2_with fail
    refine (HSF.out w5 HB5.out).mono ?_
    rintro e w6 ⟨a6, c6', rfl, ho6, hb6⟩
    rw [HL.out] at ho6 ⊢
    rw [HM.out] at ho6 ⊢
    have HB6 := hideN (belNext HB5.out hb6)
    have HO6 := hideN ho6
    have HB36 := hideN (belNext HB35.out hb6)
    clear ho6 hb6 c0 c1 c2 c3
    go_wp2_with fail
    refine (HRG.out w6 HB36.out a6 c6' HO6.out.isInts).mono ?_
    rintro e w7 ⟨rfl, q7, rfl⟩
    have HBE := hideN (belNext HB1.out (belNext HB6.out (below_drewN (Below.refl _ _) q7)))
    go_wp2_with fail
    go_ret
    exact ⟨rfl, HBE.out⟩
  | true =>
  obtain ⟨V, rfl, h6, -⟩ := bdd_split hbd
  have HLN : Hid (L = needsL V ns) := by show _ = _; rw [← HL.out]; unfold needsZ; rw [if_pos hbd, Int.toNat_natCast]
  have HWD := hideN (fun u (hu : u < V) => with_drawn (root := root) hbd hu)
  have HWT : Hid (∀ u : Nat, u < V → ∀ so W, Below W1.heap.size W1 W → Calls Try.prog 50 #[.agg #[.int .i64 (V : Int), .slice ao n cap, .int .i64 root], .int .i64 (u : Int), .bool so] W (BddPost (V : Int) (drawB V 0 (withT (V : Int) ns root (u : Int) so) []).1 (drawB V 0 (withT (V : Int) ns root (u : Int) so) []).2 W)) := fun u hu so W hW => by
    have h := HIW.out (u : Int) so W hW
    have hv : varB (V : Int) (u : Int) = true := by unfold varB; simp; omega
    rw [hbd, hv] at h
    unfold AnsPost ansOf at h
    rw [Bool.and_self, if_pos rfl, Int.toNat_natCast] at h
    exact h
  have HFT : Hid (∀ (u : Nat) (so : Bool), (∀ p ∈ (drawB V 0 (withT (V : Int) ns root (u : Int) so) []).1, FitN p) ∧ (drawB V 0 (withT (V : Int) ns root (u : Int) so) []).1.length ≤ 64) := fun u so => by
    have hp : 2 ^ V ≤ 64 := by show _ ≤ 2 ^ 6; exact Nat.pow_le_pow_right (by decide) h6
    have hl := drawB_len V 0 (withT (V : Int) ns root (u : Int) so) []
    simp only [List.length_nil] at hl
    exact ⟨drawB_fits V 0 _ [] (by omega) (by simp only [List.length_nil]; omega) (by simp), by omega⟩
  have HVC : Hid (∀ W, Below w5.heap.size w5 W → W.cell? ⟨w0.heap.size, 0, none⟩ = some (.int .i64 (V : Int)) ∧ W.cell? ⟨w0.heap.size, 1, none⟩ = some (.slice ao n cap) ∧ W.cell? ⟨w0.heap.size, 2, none⟩ = some (.int .i64 root)) := fun W hW => HK5.out.cells hW
  clear hbd c0 c1 c2 c3 HIW
  go_wp2_with fail
  go_loopw [5] (fun i wr => ∃ u : Nat, u ≤ V ∧ i = .int .i64 (u : Int) ∧ Hid (Below w5.heap.size w5 wr)) (fun i _ => V - (intOf i).toNat)
  case atStart => exact ⟨0, Nat.zero_le _, rfl, Below.refl _ _⟩
  case round =>
    obtain ⟨u, hu, rfl, hbr⟩ := hrel
    have HKr := hideN (HK5.out.below hbr.out)
    have c0 := HKr.out.c0
    have c1 := HKr.out.c1
    have c2 := HKr.out.c2
    have c3 := HKr.out.lt
    by_cases hlt : u < V
    · go_wp2_with fail
      have hwd := HWD.out u hlt
      have hFT := HFT.out u true
      have hFF := HFT.out u false
      have HWTt := hideN (fun W hW => HWT.out u hlt true W hW)
      have HWTf := hideN (fun W hW => HWT.out u hlt false W hW)
      generalize drawB V 0 (withT (V : Int) ns root (u : Int) true) [] = DT at *
      generalize drawB V 0 (withT (V : Int) ns root (u : Int) false) [] = DF at *
      obtain ⟨lT, rT⟩ := DT
      obtain ⟨lF, rF⟩ := DF
      rw [← HLN.out] at hwd
      obtain ⟨d, hd⟩ : ∃ d, decide ((u : Int) ∈ L) = d := ⟨_, rfl⟩
      rw [hd] at hwd
      have HWDD := hideN hwd
      have HDD := hideN hd
      have HFTt := hideN hFT
      have HFTf := hideN hFF
      clear hwd hd hFT hFF
      obtain ⟨z0, z1, z2⟩ := HVC.out wr.drew (belNext hbr.out (below_drewN (Below.refl _ _) 1))
      refine region_U (fin := 6) (S := fun V' => V'.cell? ⟨w0.heap.size, 0, none⟩ = some (.int .i64 (V : Int)) ∧ V'.cell? ⟨w0.heap.size, 1, none⟩ = some (.slice ao n cap) ∧ V'.cell? ⟨w0.heap.size, 2, none⟩ = some (.int .i64 root)) (by kernel_rfl) ⟨z0, z1, z2⟩ (fun hHeld => ?_)
      clear hHeld c0 c1 c2 c3
      refine takeU (i := 0) (v := .agg #[.int .i64 (V : Int), .slice ao n cap, .int .i64 root]) rfl (by rfl) (by kernel_rfl) (by kernel_rfl) (by kernel_rfl) (by kernel_rfl) (by kernel_rfl) (fun _ _ _ h => h) (Or.inl ⟨by rfl, fun w hS => by obtain ⟨z0, z1, z2⟩ := hS; go_simp⟩) ⟨z0, z1, z2⟩ ?_
      simp only [List.getElem_toArray, List.getElem_cons_zero, Act.put, List.setIfInBounds_toArray, List.set_cons_zero, List.set_cons_succ]
      refine takeU (i := 1) (v := .int .i64 (u : Int)) rfl (by rfl) (by kernel_rfl) (by kernel_rfl) (by kernel_rfl) (by kernel_rfl) (by kernel_rfl) (fun _ _ _ h => h) (Or.inl ⟨by rfl, fun w hS => by obtain ⟨z0, z1, z2⟩ := hS; go_simp⟩) ⟨z0, z1, z2⟩ ?_
      simp only [List.getElem_toArray, List.getElem_cons_zero, List.getElem_cons_succ, Act.put, List.setIfInBounds_toArray, List.set_cons_zero, List.set_cons_succ]
      refine takeU (i := 3) (v := .agg #[.int .i64 (V : Int), .slice ao n cap, .int .i64 root]) rfl (by rfl) (by kernel_rfl) (by kernel_rfl) (by kernel_rfl) (by kernel_rfl) (by kernel_rfl) (fun _ _ _ h => h) (Or.inl ⟨by rfl, fun w hS => by obtain ⟨z0, z1, z2⟩ := hS; go_simp⟩) ⟨z0, z1, z2⟩ ?_
      simp only [List.getElem_toArray, List.getElem_cons_zero, List.getElem_cons_succ, Act.put, List.setIfInBounds_toArray, List.set_cons_zero, List.set_cons_succ]
      refine takeU (i := 4) (v := .int .i64 (u : Int)) rfl (by rfl) (by kernel_rfl) (by kernel_rfl) (by kernel_rfl) (by kernel_rfl) (by kernel_rfl) (fun _ _ _ h => h) (Or.inl ⟨by rfl, fun w hS => by obtain ⟨z0, z1, z2⟩ := hS; go_simp⟩) ⟨z0, z1, z2⟩ ?_
      simp only [List.getElem_toArray, List.getElem_cons_zero, List.getElem_cons_succ, Act.put, List.setIfInBounds_toArray, List.set_cons_zero, List.set_cons_succ]
      refine oneU (i := 2) (by kernel_rfl) rfl (by rfl) ?_
      simp only [List.getElem_toArray, List.getElem_cons_zero, List.getElem_cons_succ]
      go_simp
      have hbd1 := belNext hbr.out (below_drewN (Below.refl wr.heap.size wr) 1)
      refine (HWTt.out wr.drew (belNext HB5.out hbd1)).mono ?_
      rintro e w7 ⟨aT, nT, cT, rfl, hlT, hrT, hb7⟩
      have HB57 := hideN (belNext hbd1 hb7)
      have HLT := hideN hlT
      have HRT := hideN hrT
      obtain ⟨z0, z1, z2⟩ := HVC.out w7 HB57.out
      refine ⟨⟨z0, z1, z2⟩, ?_⟩
      clear hb7 hlT hrT hbd1
      refine oneU (i := 5) (by kernel_rfl) rfl (by rfl) ?_
      simp only [List.getElem_toArray, List.getElem_cons_zero, List.getElem_cons_succ]
      go_simp
      refine (HWTf.out w7 (belNext HB5.out HB57.out)).mono ?_
      rintro e w8 ⟨aF, nF, cF, rfl, hlF, hrF, hb8⟩
      have HB58 := hideN (belNext HB57.out hb8)
      have HLF := hideN hlF
      have HRF := hideN hrF
      have HRT8 := hideN (row_below HRT.out hb8)
      obtain ⟨z0, z1, z2⟩ := HVC.out w8 HB58.out
      refine ⟨⟨z0, z1, z2⟩, ?_⟩
      clear hb8 hlF hrF HRT
      have hnT : nT ≤ 64 := by have := HLT.out; have := HFTt.out.2; simp only at *; omega
      have hnF : nF ≤ 64 := by have := HLF.out; have := HFTf.out.2; simp only at *; omega
      refine oneU (i := 6) (by kernel_rfl) rfl (by rfl) ?_
      simp only [List.getElem_toArray, List.getElem_cons_zero, List.getElem_cons_succ]
      go_simp
      refine (rgBdd_any (V : Int) rT rF aT aF nT nF cT cF lT lF w8 (nds_of_own HRT8.out HLT.out) (nds_of_own HRF.out HLF.out) HFTt.out.1 HFTf.out.1 (by omega) (by omega)).mono ?_
      rintro e w9 ⟨rfl, hb9⟩
      rw [HWDD.out]
      have HB59 := hideN (belNext HB58.out hb9)
      clear hb9 z0 z1 z2 HRT8 HRF
      refine oneU (i := 7) (by kernel_rfl) rfl (by rfl) ?_
      simp only [List.getElem_toArray, List.getElem_cons_zero, List.getElem_cons_succ]
      go_simp
      refine doneU (by kernel_rfl) ?_ _
      have HHA := hideN (rgHas_any (.slice a2 m c2') L (u : Int) w9 (HO23.out.below (belNext HB35.out HB59.out)).isInts (by have := HM.out; omega))
      have hdd : ((!d) == d) = false := by cases d <;> rfl
      have hdd2 : decide ((!d) = d) = false := by cases d <;> rfl
      have hdd3 : (d == !d) = false := by cases d <;> rfl
      go_wp2_with fail
      refine HHA.out.mono ?_
      rintro e w10 ⟨rfl, rfl⟩
      rw [HDD.out]
      cases d with
      | true =>
        go_wp2
        go_roundw
        case rel => exact ⟨u + 1, by omega, by go_num, HB59⟩
        case measure => simp [intOf]; omega
      | false =>
        go_wp2
        go_roundw
        case rel => exact ⟨u + 1, by omega, by go_num, HB59⟩
        case measure => simp [intOf]; omega
    · obtain rfl : u = V := by omega
      have HBE := hideN (belNext HB1.out (belNext HB5.out hbr.out))
      go_wp2_with fail
      go_ret
      exact ⟨rfl, HBE.out⟩

set_option maxRecDepth 100000 in
theorem fnBddNeeds_lifted (os : Os) (started : os.Started) (H : Type) (enc : TypeId × Value → H) :
    ReturnsInHanded {} Try.checked os 14 .any (Rows.fnBddNeedsSpec.pre6 enc Try.prog Try.f14 Rows.fnBddNeedsRow.domain false) (Rows.fnBddNeedsSpec.post enc Try.prog Try.f14 false true false false) := by
  refine returnsInHanded_of_change (C := Try.checked) own started (by kernel_rfl) Try.func14
    (ChangeSpec.witness6 (enc := enc) (C := Try.checked) false ⟨#[], #[.slice none 0 0], []⟩ 8 (by kernel_rfl) (by kernel_rfl) (by kernel_rfl) (by kernel_rfl)) ?_
  intro W base args ds gs before hval0 hW hcnd _
  have hval : ∀ (j : Nat) t v, Try.f14.params[j]? = some t → args[j]? = some v → Value.okWide Try.prog W .any base t v := hval0
  have hW' := hW
  obtain ⟨p, q, hA0, hV, rfl, hfz, hnd⟩ := hW
  have hA : DataW.TrodAll enc Try.prog W 0 (fun _ => true) true Try.f14.params.toList args.toList ds p := hA0
  rw [Try.params14] at hA hval
  obtain ⟨v0, vs0, d0, ds0, p0, q0, hargs, rfl, rfl, h0, r0⟩ := trodAll_cons hA
  obtain ⟨rfl, rfl, rfl⟩ := trodAll_nil r0
  obtain rfl : args = #[v0] := by cases args; simp_all
  obtain ⟨rfl, rfl⟩ := trodVars_none hV
  have k0 := h0
  have lt0 : ∀ x ∈ p0, x.block < W.heap.size := by obtain ⟨m, hm⟩ := k0; exact DataW.trod_lt m _ _ _ hm
  have hv0 := hval 0 46 v0 rfl rfl
  obtain ⟨ao, len, cap, rfl⟩ := okWide_slice Try.underlying46 hv0
  obtain ⟨fuel, hf⟩ := h0
  obtain ⟨bs, hbs, hml⟩ := isBytes_of_trod (by simpa [Value.cells] using hf)
  clear hA0 hval0
  refine (fnBddNeeds_walk _ bs W hbs (fun ao' n' cap' b off h1 h2 => by cases h1; subst h2; exact okWide_slice_lt Try.underlying46 hv0) hml).mono fun e W' ⟨he, bel⟩ => ?_
  subst he
  exact ⟨_, rfl, _, _, _, [], _, [], hW', trodAll_mk1 (shut_bool Try.underlying4 _), (trodAll_cons_mk (Below.trod laidOutN (by kernel_rfl) (of_decide_eq_true (by kernel_rfl)) k0 bel lt0) trodAll_mk0), rfl, bel.frame _, fun h => by cases h⟩

theorem fnBddNeeds_holds : Rows.FnBddNeedsSaid :=
  OpenClaim.holds_of_wide 14 Try.f14 rfl rfl rfl rfl rfl rfl rfl ⟨rfl, rfl, rfl, rfl, rfl⟩ rfl rfl rfl rfl rfl (by kernel_rfl) Try.func14 (by kernel_rfl)
    (of_decide_eq_true (by kernel_rfl)) (by unfold Func.isWrapper; first | (rw [if_pos (by decide +kernel)]; kernel_rfl) | (rw [if_neg (by decide +kernel)]; exact ⟨rfl, rfl⟩))
    (fun os started H enc _ => fnBddNeeds_lifted os started H enc)

end Go.Proofs.Ytknpifjkllcdeaa
