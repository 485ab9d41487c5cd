/-
  The law FnExactBddNeeds: at every diagram the program's BddNeeds answers as the model's, writes into no argument, and its answer owns its memory. No condition: every argument that can be read.
-/
import Derived.Test.YtknpifjkllcdeaaIntSt
import Derived.Test.YtknpifjkllcdeaaBdNi
import Derived.Test.YtknpifjkllcdeaaEqI
namespace Go.Proofs.Ytknpifjkllcdeaa
open Go.ChangeShapes Go.WideShapes Go.ChangeAt Go.RowKit Go.Deep Go.Joins
set_option linter.unusedVariables false

attribute [local go_sem] Oper.semAt_some

set_option maxRecDepth 100000 in
set_option maxHeartbeats 8000000 in
theorem fnExactBddNeeds_walk (vi root : Int) (ao : Option Addr) (n cap : Nat) (ns : List Nd) (w : World) (hN : Nds w ao n cap ns) (hml : n ≤ maxLen) (h64 : ∀ p ∈ ns, I64N p) (hr : I64 root) :
    Calls Try.prog 5 #[.agg #[.int .i64 vi, .slice ao n cap, .int .i64 root]] w fun e w' => e = .returned (.bool true) ∧ Below w.heap.size w w' := by
  have HN : Hid (∀ w', Below w.heap.size w w' → Nds w' ao n cap ns) := fun w' h => hN.below h
  have HL := hideN hN.len
  have H64 := hideN h64
  have HR := hideN hr
  obtain ⟨L, hL⟩ : ∃ L, needsZ vi ns root = L := ⟨_, rfl⟩
  obtain ⟨m, hm⟩ : ∃ m, L.length = m := ⟨_, rfl⟩
  have HMM := hideN hm
  have hm64 : m ≤ 64 := by rw [← hm, ← hL]; exact needsZ_le vi ns root
  have HSP : Hid (∀ (W : World) (b : Nat), n ≤ 1048576 → Nds W (some ⟨b, 0, none⟩) n n ns → Calls Try.prog 28 #[.agg #[.int .i64 vi, .slice (some ⟨b, 0, none⟩) n n, .int .i64 root]] W fun e w' => ∃ a c, e = .returned (.slice a m c) ∧ Owni w' W.heap.size (.slice a m c) L ∧ Below W.heap.size W w') := fun W b hn hW => by
    have h := specBddNeeds_any vi root _ n n ns W hW h64 hr (by omega)
    unfold IntsPost at h
    rw [hL, hm] at h
    exact h
  have HIP : Hid (∀ (W : World) (b : Nat), Nds W (some ⟨b, 0, none⟩) n n ns → Calls Try.prog 29 #[.agg #[.int .i64 vi, .slice (some ⟨b, 0, none⟩) n n, .int .i64 root]] W fun e w' => ∃ a c, e = .returned (.slice a m c) ∧ Owni w' W.heap.size (.slice a m c) L ∧ Below W.heap.size W w') := fun W b hW => by
    have h := implBddNeeds_any vi root _ n n ns W hW h64 hr
    unfold IntsPost at h
    rw [hL, hm] at h
    exact h
  have HEB : Hid (∀ (W : World) (a1 a2 : Option Addr) (c1 c2 b1 b2 : Nat), Owni W b1 (.slice a1 m c1) L → Owni W b2 (.slice a2 m c2) L → Calls Try.prog 30 #[.slice a1 m c1, .slice a2 m c2] W fun e w' => e = .returned (.bool true) ∧ ∃ n, w' = W.drewN n) := fun W a1 a2 c1 c2 b1 b2 h1 h2 =>
    eqIntS_same _ _ L W h1.isInts h2.isInts (by unfold maxLen; omega)
  obtain ⟨W1, hW1⟩ : ∃ W1, W1 = w.alloc (.cells #[.int .i64 vi, .slice ao n cap, .int .i64 root] 36) := ⟨_, rfl⟩
  have HB1 : Hid (Below w.heap.size w W1) := by rw [hW1]; exact belOne _ _
  have HT1 : Hid (BlkL W1 w.heap.size (.int .i64 vi) (.slice ao n cap) (.int .i64 root)) := by rw [hW1]; exact BlkL.new _ _ _ _
  have HW1 := hideN hW1
  have HSZ := hideN (szBdd_any vi root ao n cap 1048576 W1 hml (by omega) (by omega))
  clear hN h64 hr hW1 hm hL
  by_cases hbig : n ≤ 1048576
  case neg =>
    have HZ : Hid ((if (n : Int) ≤ 1048576 then 1048576 - (n : Int) else -1) = -1) := by show _ = _; rw [if_neg (by omega)]
    go_enter Try.func5, Try.ntmps5
    go_wp2_with fail
    rw [← HW1.out]
    refine HSZ.out.mono ?_
    rintro e w2 ⟨rfl, hb2⟩
    have HB2 := hideN (belNext HB1.out hb2)
    clear hb2
    rw [HZ.out]
    go_wp2
    go_ret
    exact ⟨rfl, HB2.out⟩
  have HZ : Hid ((if (n : Int) ≤ 1048576 then 1048576 - (n : Int) else -1) = 1048576 - (n : Int)) := by show _ = _; rw [if_pos (by omega)]
  go_enter Try.func5, Try.ntmps5
  go_wp2_with fail
  rw [← HW1.out]
  refine HSZ.out.mono ?_
  rintro e w2 ⟨rfl, hb2⟩
  have HB2 := hideN (belNext HB1.out hb2)
  have HT2 := hideN (HT1.out.below hb2)
  clear hb2
  rw [HZ.out]
  have c0 := HT2.out.c0
  have c1 := HT2.out.c1
  have c2 := HT2.out.c2
  have c3 := HT2.out.lt
  go_wp2_with fail
  refine (toBdd_any vi root ao n cap ns w2 (HN.out _ HB2.out) hbig).mono ?_
  rintro e w3 ⟨b3, rfl, hb3, _, hn3⟩
  have HB3 := hideN (belNext HB2.out hb3)
  have HT3 := hideN (HT2.out.below hb3)
  have HN3 := hideN hn3
  clear hb3 hn3 c0 c1 c2 c3
  go_wp2_with fail
  refine (HSP.out w3 b3 hbig HN3.out).mono ?_
  rintro e w4 ⟨aw, cw, rfl, hgw, hb4⟩
  have HB4 := hideN (belNext HB3.out hb4)
  have HT4 := hideN (HT3.out.below hb4)
  have HGW := hideN hgw
  clear hb4 hgw
  have c0 := HT4.out.c0
  have c1 := HT4.out.c1
  have c2 := HT4.out.c2
  have c3 := HT4.out.lt
  go_wp2_with fail
  refine (toBdd_any vi root ao n cap ns w4 (HN.out _ HB4.out) hbig).mono ?_
  rintro e w5 ⟨b5, rfl, hb5, ⟨hs5, hr5⟩, hn5⟩
  have HB5 := hideN (belNext HB4.out hb5)
  have HT5 := hideN (HT4.out.below hb5)
  have HN5 := hideN hn5
  have HR5 := hideN hr5
  have HS5 := hideN hs5
  have HGW5 := hideN (HGW.out.below hb5)
  clear hb5 hn5 c0 c1 c2 c3 hr5 hs5
  go_wp2_with fail
  obtain ⟨W6, hW6⟩ : ∃ W6, W6 = w5.alloc (.cells #[.int .i64 vi, .slice (some ⟨b5, 0, none⟩) n n, .int .i64 root] 25) := ⟨_, rfl⟩
  try rw [← hW6]
  have hb56 : Below w5.heap.size w5 W6 := by rw [hW6]; exact belOne _ _
  have HO6 : Hid (OneSt w W6 w5.heap.size b5 vi root ao n cap ns) := ⟨HT5.out.below hb56, by rw [hW6]; exact BlkD.new _ _ _ _, HR5.out.of_block (hb56.block _ HR5.out.lt), HN5.out.below hb56, belNext HB5.out hb56⟩
  have HGW6 := hideN ((HGW5.out.below hb56).base (Nat.zero_le _))
  have HKW : Hid (∀ k, (Value.slice aw m cw).ownBlock = some k → k < b5) := fun k e => by have := (HGW.out.blk k e).2; have := HS5.out; omega
  have HSB : Hid (w.heap.size < b5 ∧ b5 < W6.heap.size) := ⟨by have := HS5.out; have := HT4.out.lt; omega, by have := HR5.out.lt; have := hb56.size; omega⟩
  clear hW6 hb56 HB5 HT5 HN5 HR5 HGW5 HGW HS5
  generalize w5.heap.size = sx at *
  refine (HIP.out W6 b5 HO6.out.nx).mono ?_
  rintro e w7 ⟨ag, cg, rfl, hgg, hb7⟩
  have HST7 : Hid (TiSt w w7 sx b5 W6.heap.size vi root ao n cap ns aw ag m cw cg L) := ⟨HO6.out.below hb7, HGW6.out.below hb7, hgg, HKW.out, HSB.out⟩
  clear hb7 hgg HO6 HGW6 HKW HSB
  generalize W6.heap.size = lo at *
  go_wp2_with fail
  refine (HEB.out w7 ag aw cg cw _ _ HST7.out.gg HST7.out.gw).mono ?_
  rintro e w' ⟨rfl, q, rfl⟩
  have HST8 := hideN (HST7.out.below (below_drewN (Below.refl _ _) q))
  clear HST7
  generalize w7.drewN q = w8 at *
  go_wp2_with fail
  have HCL := hideN (fun V (hV : Below w8.heap.size w8 V) => HST8.out.o.cells hV)
  obtain ⟨z0, z1, z2, y0, y1, y2⟩ := HCL.out w8.drew (below_drewN (Below.refl _ _) 1)
  refine region_U (fin := 3) (S := fun V => V.cell? ⟨w.heap.size, 0, none⟩ = some (.int .i64 vi) ∧ V.cell? ⟨w.heap.size, 1, none⟩ = some (.slice ao n cap) ∧ V.cell? ⟨w.heap.size, 2, none⟩ = some (.int .i64 root) ∧ V.cell? ⟨sx, 0, none⟩ = some (.int .i64 vi) ∧ V.cell? ⟨sx, 1, none⟩ = some (.slice (some ⟨b5, 0, none⟩) n n) ∧ V.cell? ⟨sx, 2, none⟩ = some (.int .i64 root)) (by kernel_rfl) ⟨z0, z1, z2, y0, y1, y2⟩ (fun hHeld => ?_)
  clear hHeld
  refine takeU (i := 0) (v := .agg #[.int .i64 vi, .slice (some ⟨b5, 0, none⟩) n n, .int .i64 root]) rfl (by rfl) (by kernel_rfl) (by kernel_rfl) (by kernel_rfl) (by kernel_rfl) (by kernel_rfl) (fun _ _ _ h => h) (Or.inl ⟨by rfl, fun w hS => by obtain ⟨z0, z1, z2, y0, y1, y2⟩ := hS; go_simp⟩) ⟨z0, z1, z2, y0, y1, y2⟩ ?_
  simp only [List.getElem_toArray, List.getElem_cons_zero, Act.put, List.setIfInBounds_toArray, List.set_cons_zero, List.set_cons_succ]
  refine takeU (i := 1) (v := .agg #[.int .i64 vi, .slice ao n cap, .int .i64 root]) rfl (by rfl) (by kernel_rfl) (by kernel_rfl) (by kernel_rfl) (by kernel_rfl) (by kernel_rfl) (fun _ _ _ h => h) (Or.inl ⟨by rfl, fun w hS => by obtain ⟨z0, z1, z2, y0, y1, y2⟩ := hS; go_simp⟩) ⟨z0, z1, z2, y0, y1, y2⟩ ?_
  simp only [List.getElem_toArray, List.getElem_cons_zero, List.getElem_cons_succ, Act.put, List.setIfInBounds_toArray, List.set_cons_zero, List.set_cons_succ]
  refine oneU (i := 2) (by kernel_rfl) rfl (by rfl) ?_
  simp only [List.getElem_toArray, List.getElem_cons_zero, List.getElem_cons_succ]
  go_simp
  have hbd := below_drewN (Below.refl w8.heap.size w8) 1
  refine (toBdd_any vi root ao n cap ns w8.drew (HN.out _ (belNext HST8.out.o.be hbd)) hbig).mono ?_
  rintro e w9 ⟨b9, rfl, hb9, _, hn9⟩
  have hb89 : Below w8.heap.size w8 w9 := belNext hbd hb9
  have HST9 := hideN (HST8.out.below hb89)
  have HN9 := hideN hn9
  refine ⟨HCL.out w9 hb89, ?_⟩
  clear hbd hb9 hb89 hn9 z0 z1 z2 y0 y1 y2
  refine oneU (i := 3) (by kernel_rfl) rfl (by rfl) ?_
  simp only [List.getElem_toArray, List.getElem_cons_zero, List.getElem_cons_succ]
  go_simp
  refine (eqBdd_same vi root _ _ n _ _ ns w9 HST9.out.o.nx.is HN9.out.is (by have := HL.out; omega)).mono ?_
  rintro e w10 ⟨rfl, hb10⟩
  have HST10 := hideN (HST9.out.below hb10)
  clear hb10 HST8 HST9 HN9 HCL
  refine oneU (i := 4) (by kernel_rfl) rfl (by rfl) ?_
  simp only [List.getElem_toArray, List.getElem_cons_zero, List.getElem_cons_succ]
  go_simp
  refine doneU (by kernel_rfl) ?_ _
  have x0 := HST10.out.o.bx.c0
  have x1 := HST10.out.o.bx.c1
  have x2 := HST10.out.o.bx.c2
  have x3 := HST10.out.o.bx.lt
  go_wp2_with fail
  refine (markBdd_copy vi root b5 n _ w10 HST10.out.o.rx hbig).mono ?_
  rintro e w11 ⟨rfl, hc11⟩
  have HD11 := hideN (HST10.out.marked hc11)
  have k11 : decide ((1 : Int) + 3 * (n : Int) < 0) = false := by simp; omega
  clear hc11 x0 x1 x2 x3 HST10
  go_wp2_with fail
  refine (HEB.out w11 ag aw cg cw _ _ HD11.out.gg HD11.out.gw).mono ?_
  rintro e w' ⟨rfl, q2, rfl⟩
  have HD12 := hideN (HD11.out.below (below_drewN (Below.refl _ _) q2))
  clear HD11 k11
  generalize w11.drewN q2 = w12 at *
  go_wp2_with fail
  refine (mark_owni w12 _ ag m cg L HD12.out.gg HMM.out (by have := HMM.out; omega)).mono ?_
  rintro e w13 ⟨rfl, hi13, hc13⟩
  have HE13 := hideN (HD12.out.marked hc13 hi13)
  clear hi13 hc13 HD12
  go_wp2_with fail
  refine (heldIntS_any _ m 1 w13 HE13.out.ig (by omega) (by omega) (by omega)).mono ?_
  rintro e w' ⟨rfl, hw'⟩
  obtain rfl := hw'.symm
  have k14 : decide ((1 : Int) + (m : Int) < 0) = false := by simp; omega
  have c0 := HE13.out.b0.c0
  have c1 := HE13.out.b0.c1
  have c2 := HE13.out.b0.c2
  have c3 := HE13.out.b0.lt
  go_wp2_with fail
  refine (toBdd_any vi root ao n cap ns w13 (HN.out _ HE13.out.be) hbig).mono ?_
  rintro e w15 ⟨b15, rfl, hb15, _, hn15⟩
  have HE15 := hideN (HE13.out.below hb15)
  have HN15 := hideN hn15
  clear hb15 hn15 c0 c1 c2 c3 HE13
  go_wp2_with fail
  refine (HIP.out w15 b15 HN15.out).mono ?_
  rintro e w16 ⟨ah, ch, rfl, hgh, hb16⟩
  have HE16 := hideN (HE15.out.below hb16)
  have HGH := hideN hgh
  clear hb16 hgh HE15 HN15
  go_wp2_with fail
  refine (HEB.out w16 ah aw ch cw _ _ HGH.out HE16.out.gw).mono ?_
  rintro e w' ⟨rfl, q3, rfl⟩
  have HE17 := hideN (HE16.out.below (below_drewN (Below.refl _ _) q3))
  clear HE16 HGH
  generalize w16.drewN q3 = w17 at *
  go_wp2_with fail
  refine (heldIntS_any _ m 1 w17 HE17.out.ig (by omega) (by omega) (by omega)).mono ?_
  rintro e w' ⟨rfl, hw'⟩
  obtain rfl := hw'.symm
  have k14 : decide ((1 : Int) + (m : Int) < 0) = false := by simp; omega
  go_wp2_with fail
  go_ret
  exact ⟨rfl, HE17.out.be⟩

set_option maxRecDepth 100000 in
theorem fnExactBddNeeds_lifted (os : Os) (started : os.Started) (H : Type) (enc : TypeId × Value → H) :
    ReturnsInHanded {} Try.checked os 5 .any (Rows.fnExactBddNeedsSpec.pre6 enc Try.prog Try.f5 Rows.fnExactBddNeedsRow.domain false) (Rows.fnExactBddNeedsSpec.post enc Try.prog Try.f5 false true false false) := by
  refine returnsInHanded_of_change (C := Try.checked) own started (by kernel_rfl) Try.func5
    (ChangeSpec.witness6 (enc := enc) (C := Try.checked) false ⟨#[], #[.agg #[.int .i64 0, .slice none 0 0, .int .i64 0]], []⟩ 8 (by kernel_rfl) (by kernel_rfl) (by kernel_rfl) (by kernel_rfl)) ?_
  intro W base args ds gs before hval0 hW hcnd _
  have hval : ∀ (j : Nat) t v, Try.f5.params[j]? = some t → args[j]? = some v → Value.okWide Try.prog W .any base t v := hval0
  have hW' := hW
  obtain ⟨p, q, hA0, hV, rfl, hfz, hnd⟩ := hW
  have hA : DataW.TrodAll enc Try.prog W 0 (fun _ => true) true Try.f5.params.toList args.toList ds p := hA0
  rw [Try.params5] at hA hval
  obtain ⟨v0, vs0, d0, ds0, p0, q0, hargs, rfl, rfl, h0, r0⟩ := trodAll_cons hA
  obtain ⟨rfl, rfl, rfl⟩ := trodAll_nil r0
  obtain rfl : args = #[v0] := by cases args; simp_all
  obtain ⟨rfl, rfl⟩ := trodVars_none hV
  have k0 := h0
  have lt0 : ∀ x ∈ p0, x.block < W.heap.size := by obtain ⟨m, hm⟩ := k0; exact DataW.trod_lt m _ _ _ hm
  obtain ⟨vi, root, ao, n, cap, ns, rfl, hN, hml, h64, _, hr⟩ := bdd_of_trod (hval 0 36 v0 rfl rfl) h0
  clear hA0 hval0
  refine (fnExactBddNeeds_walk vi root ao n cap ns W hN hml h64 hr).mono fun e W' ⟨he, bel⟩ => ?_
  subst he
  exact ⟨_, rfl, _, _, _, [], _, [], hW', trodAll_mk1 (shut_bool Try.underlying4 _), (trodAll_cons_mk (Below.trod laidOutN (by kernel_rfl) (of_decide_eq_true (by kernel_rfl)) k0 bel lt0) trodAll_mk0), rfl, bel.frame _, fun h => by cases h⟩

theorem fnExactBddNeeds_holds : Rows.FnExactBddNeedsSaid :=
  OpenClaim.holds_of_wide 5 Try.f5 rfl rfl rfl rfl rfl rfl rfl ⟨rfl, rfl, rfl, rfl, rfl⟩ rfl rfl rfl rfl rfl (by kernel_rfl) Try.func5 (by kernel_rfl)
    (of_decide_eq_true (by kernel_rfl)) (by unfold Func.isWrapper; first | (rw [if_pos (by decide +kernel)]; kernel_rfl) | (rw [if_neg (by decide +kernel)]; exact ⟨rfl, rfl⟩))
    (fun os started H enc _ => fnExactBddNeeds_lifted os started H enc)

end Go.Proofs.Ytknpifjkllcdeaa
