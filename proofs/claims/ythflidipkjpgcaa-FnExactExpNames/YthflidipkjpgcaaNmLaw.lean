/-
  The law FnExactExpNames: at every expression the program's ExpNames answers as the model's, writes into no argument and keeps nothing of one, and its answer owns its memory, behind another call too. No condition: every argument that can be read.
-/
import Derived.Test.YthflidipkjpgcaaNmD
import Derived.Test.YthflidipkjpgcaaExpN
import Derived.Test.YthflidipkjpgcaaExpQ
import Derived.Test.YthflidipkjpgcaaExpO
namespace Go.Proofs.Ythflidipkjpgcaa
open Go.ChangeShapes Go.WideShapes Go.ChangeAt Go.RowKit Go.Deep Go.Joins
set_option linter.unusedVariables false

theorem laidOutE : laidOutB Try.prog = true := by kernel_rfl

theorem namesOf_length (t : ExpT) : (namesOf t).length ≤ 60 := by
  unfold namesOf
  split
  · next h =>
    unfold okE at h
    simp only [Bool.and_eq_true, decide_eq_true_eq] at h
    have h1 := putAll_length (namesT t) []
    have h2 := namesT_size t
    simp at h1
    omega
  · simp

set_option maxRecDepth 100000 in
set_option maxHeartbeats 8000000 in
theorem fnExactExpNames_walk (t : ExpT) (v : Value) (w : World) (hE : IsE w 0 t v) :
    Calls Try.prog 3 #[v] w fun e w' => e = .returned (.bool true) ∧ Below w.heap.size w w' := by
  have HSZ := hideN (fun W (hV : Below w.heap.size w W) => szExp_any 0 t v W 1048576 (by omega) (by omega) (IsE.below hE hV))
  have HEB := hideN (fun W (hV : Below w.heap.size w W) => IsE.below hE hV)
  obtain ⟨k, n, s, ao, m, cap, rfl⟩ := hE.agg
  obtain ⟨W1, hW1⟩ : ∃ W1, W1 = w.alloc (.cells #[.int .i64 k, .int .i64 n, .string s, .slice ao m cap] 24) := ⟨_, rfl⟩
  have HB1 : Hid (Below w.heap.size w W1) := by rw [hW1]; exact belOne _ _
  have HK : Hid (BlkE W1 w.heap.size (.int .i64 k) (.int .i64 n) (.string s) (.slice ao m cap) 24) := by rw [hW1]; exact BlkE.new _ _ _ _ _ _
  have HW1 := hideN hW1
  clear hE hW1
  by_cases hbig : totE t ≤ 1048576
  case neg =>
    have hl : leftI (totE t) 1048576 = -1 := by unfold leftI; rw [if_neg (by omega)]
    go_enter Try.func3, Try.ntmps3
    go_wp2_with fail
    try rw [← HW1.out]
    refine (HSZ.out W1 HB1.out).mono ?_
    rintro e w2 ⟨rfl, hb2⟩
    rw [hl]
    have HB2 := hideN (belNext HB1.out hb2)
    clear hb2
    go_wp2_with fail
    go_ret
    exact ⟨rfl, HB2.out⟩
  obtain ⟨z, hz⟩ : ∃ z : Nat, leftI (totE t) 1048576 = (z : Int) := ⟨1048576 - totE t, by unfold leftI; rw [if_pos (by omega)]; omega⟩
  have HTO := hideN (fun W (hV : Below w.heap.size w W) => toExp_any 0 t _ W hbig (HEB.out W hV))
  have HTM := hideN (fun W (hV : Below w.heap.size w W) => toExp_mark 0 t _ W hbig (HEB.out W hV))
  have HSP := hideN (fun lo v W (h : IsE W lo t v) => specExpNames_any lo t hbig v W h)
  have HIM := hideN (fun lo v W (h : IsE W lo t v) => implExpNames_any lo t hbig v W h)
  have HEQ := hideN (fun lo1 lo2 v u W (h1 : IsE W lo1 t v) (h2 : IsE W lo2 t u) => eqExp_any lo1 lo2 t hbig v u W h1 h2)
  have HMK := hideN (fun lo hi k0 n0 s0 ao m c W (h : IsM W lo hi t (.slice ao m c)) => markExp_any lo hi t hbig (.agg #[.int .i64 k0, .int .i64 n0, .string s0, .slice ao m c]) k0 n0 s0 ao m c rfl W h)
  have HNL := hideN (namesOf_length t)
  have HES := hideN (fun v u W (h1 : IsT W v (namesOf t)) (h2 : IsT W u (namesOf t)) => eqStringS_same (namesOf t) v u W h1 h2 (by have := HNL.out; omega))
  obtain ⟨N, hN⟩ : ∃ N, namesOf t = N := ⟨_, rfl⟩
  rw [hN] at HSP HIM HNL HES
  clear hN
  have b0 := HK.out.c0
  have b1 := HK.out.c1
  have b2 := HK.out.c2
  have b3 := HK.out.c3
  go_enter Try.func3, Try.ntmps3
  go_wp2_with fail
  try rw [← HW1.out]
  refine (HSZ.out W1 HB1.out).mono ?_
  rintro e w2 ⟨rfl, hb2⟩
  rw [hz]
  have HT2 := hideN (HK.out.below hb2)
  have HB2 := hideN (belNext HB1.out hb2)
  clear hb2 b0 b1 b2 b3
  have b0 := HT2.out.c0
  have b1 := HT2.out.c1
  have b2 := HT2.out.c2
  have b3 := HT2.out.c3
  go_wp2_with fail
  refine (HTO.out w2 HB2.out).mono ?_
  rintro e w3 ⟨v3, rfl, hv3, hb3⟩
  have HB3 := hideN (belNext HB2.out hb3)
  have HT3 := hideN (HT2.out.below hb3)
  have HV3 := hideN hv3
  clear hb3 b0 b1 b2 b3 hv3
  have b0 := HT3.out.c0
  have b1 := HT3.out.c1
  have b2 := HT3.out.c2
  have b3 := HT3.out.c3
  go_wp2_with fail
  refine (HSP.out _ v3 w3 HV3.out).mono ?_
  rintro e w4 ⟨q, qo, qn, qc, rfl, hql, _, _, hqa, hb4⟩
  have HB4 := hideN (belNext HB3.out hb4)
  have HT4 := hideN (HT3.out.below hb4)
  have HQ4 := hideN hqa
  have HQL := hideN hql
  clear hb4 b0 b1 b2 b3 hqa hql
  -- what the blocks of this world keep
  have HCT := hideN (fun V (hV : Below w4.heap.size w4 V) => HT4.out.below hV)
  have HCQ := hideN (fun V (hV : Below w4.heap.size w4 V) => (HQ4.out.below hV).isT qn qc HQL.out)
  have HCB := hideN (fun V (hV : Below w4.heap.size w4 V) => belNext HB4.out hV)
  have b0 := HT4.out.c0
  have b1 := HT4.out.c1
  have b2 := HT4.out.c2
  have b3 := HT4.out.c3
  go_wp2_with fail
  refine (HTM.out w4 HB4.out).mono ?_
  rintro e w5 ⟨v5, rfl, hv5, hm5, hb5⟩
  obtain ⟨k5, n5, s5, ao5, m5, cap5, rfl⟩ := hv5.agg
  have HM5 : Hid (IsM w5 w4.heap.size w5.heap.size t (.slice ao5 m5 cap5)) := hm5
  have HC5 := hideN hb5
  have HV5 := hideN hv5
  clear hb5 b0 b1 b2 b3 hv5 hm5
  have b0 := (HCT.out w5 HC5.out).c0
  have b1 := (HCT.out w5 HC5.out).c1
  have b2 := (HCT.out w5 HC5.out).c2
  have b3 := (HCT.out w5 HC5.out).c3
  obtain ⟨W6, hW6⟩ : ∃ W6, W6 = w5.alloc (.cells #[.int .i64 k5, .int .i64 n5, .string s5, .slice ao5 m5 cap5] 30) := ⟨_, rfl⟩
  have hb6 : Below w5.heap.size w5 W6 := by rw [hW6]; exact belOne _ _
  have HX6 : Hid (BlkE W6 w5.heap.size (.int .i64 k5) (.int .i64 n5) (.string s5) (.slice ao5 m5 cap5) 30) := by rw [hW6]; exact BlkE.new _ _ _ _ _ _
  have HC6 := hideN (belNext HC5.out hb6)
  have HV6 := hideN (IsE.below HV5.out hb6)
  have HM6 := hideN (HM5.out.kept (Kp3.below hb6) _ _)
  have hs56 : w5.heap.size < W6.heap.size := HX6.out.lt
  have HW6 := hideN hW6
  clear hW6 hb6
  go_wp2_with fail
  try rw [← HW6.out]
  refine (HIM.out _ _ W6 HV6.out).mono ?_
  rintro e w7 ⟨ga, gn, gc, rfl, hgl, hgo, hb7⟩
  have HC7 := hideN (belNext HC6.out hb7)
  have HX7 := hideN (HX6.out.below hb7)
  have HV7 := hideN (IsE.below HV6.out hb7)
  have HM7 := hideN (HM6.out.kept (Kp3.below hb7) _ _)
  have HG7 := hideN hgo
  have HGL := hideN hgl
  have hgn : gn ≤ 60 := by rw [← hgl]; exact HNL.out
  clear hb7 b0 b1 b2 b3 hgo hgl
  go_wp2_with fail
  refine (HES.out _ _ w7 HG7.out.isT (HCQ.out w7 HC7.out)).mono ?_
  rintro e w8 ⟨rfl, hb8⟩
  have HC8 := hideN (belNext HC7.out hb8)
  have HX8 := hideN (HX7.out.below hb8)
  have HV8 := hideN (IsE.below HV7.out hb8)
  have HM8 := hideN (HM7.out.kept (Kp3.below hb8) _ _)
  have HG8 := hideN (HG7.out.below hb8)
  clear hb8
  have b0 := (HCT.out w8 HC8.out).c0
  have b1 := (HCT.out w8 HC8.out).c1
  have b2 := (HCT.out w8 HC8.out).c2
  have b3 := (HCT.out w8 HC8.out).c3
  have x0 := HX8.out.c0
  have x1 := HX8.out.c1
  have x2 := HX8.out.c2
  have x3 := HX8.out.c3
  have HB8 := hideN (HCB.out w8 HC8.out)
  go_wp2_with fail
  have hd8 : Below w8.heap.size w8 w8.drew := below_drewN (Below.refl _ _) 1
  have HCX : Hid (∀ V', Below w8.heap.size w8 V' → V'.cell? ⟨w.heap.size, 0, none⟩ = some (.int .i64 k) ∧ V'.cell? ⟨w.heap.size, 1, none⟩ = some (.int .i64 n) ∧ V'.cell? ⟨w.heap.size, 2, none⟩ = some (.string s) ∧ V'.cell? ⟨w.heap.size, 3, none⟩ = some (.slice ao m cap) ∧ V'.cell? ⟨w5.heap.size, 0, none⟩ = some (.int .i64 k5) ∧ V'.cell? ⟨w5.heap.size, 1, none⟩ = some (.int .i64 n5) ∧ V'.cell? ⟨w5.heap.size, 2, none⟩ = some (.string s5) ∧ V'.cell? ⟨w5.heap.size, 3, none⟩ = some (.slice ao5 m5 cap5)) := fun V' hV => by
    have h1 := HCT.out V' (belNext HC8.out hV)
    have h2 := HX8.out.below hV
    exact ⟨h1.c0, h1.c1, h1.c2, h1.c3, h2.c0, h2.c1, h2.c2, h2.c3⟩
  have HD8 := hideN hd8
  clear b0 b1 b2 b3 x0 x1 x2 x3 hd8
  obtain ⟨b0, b1, b2, b3, x0, x1, x2, x3⟩ := HCX.out w8.drew HD8.out
  refine region_U (fin := 4) (S := fun V' => V'.cell? ⟨w.heap.size, 0, none⟩ = some (.int .i64 k) ∧ V'.cell? ⟨w.heap.size, 1, none⟩ = some (.int .i64 n) ∧ V'.cell? ⟨w.heap.size, 2, none⟩ = some (.string s) ∧ V'.cell? ⟨w.heap.size, 3, none⟩ = some (.slice ao m cap) ∧ V'.cell? ⟨w5.heap.size, 0, none⟩ = some (.int .i64 k5) ∧ V'.cell? ⟨w5.heap.size, 1, none⟩ = some (.int .i64 n5) ∧ V'.cell? ⟨w5.heap.size, 2, none⟩ = some (.string s5) ∧ V'.cell? ⟨w5.heap.size, 3, none⟩ = some (.slice ao5 m5 cap5)) (by kernel_rfl) ⟨b0, b1, b2, b3, x0, x1, x2, x3⟩ (fun hHeld => ?_)
  clear hHeld
  refine takeU (i := 0) (v := .agg #[.int .i64 k5, .int .i64 n5, .string s5, .slice ao5 m5 cap5]) rfl (by rfl) (by kernel_rfl) (by kernel_rfl) (by kernel_rfl) (by kernel_rfl) (by kernel_rfl) (fun _ _ _ h => h) (Or.inl ⟨by rfl, fun w hS => by obtain ⟨b0, b1, b2, b3, x0, x1, x2, x3⟩ := hS; go_simp⟩) ⟨b0, b1, b2, b3, x0, x1, x2, x3⟩ ?_
  simp only [List.getElem_toArray, List.getElem_cons_zero, Act.put, List.setIfInBounds_toArray, List.set_cons_zero, List.set_cons_succ]
  refine takeU (i := 1) (v := .agg #[.int .i64 k, .int .i64 n, .string s, .slice ao m cap]) rfl (by rfl) (by kernel_rfl) (by kernel_rfl) (by kernel_rfl) (by kernel_rfl) (by kernel_rfl) (fun _ _ _ h => h) (Or.inl ⟨by rfl, fun w hS => by obtain ⟨b0, b1, b2, b3, x0, x1, x2, x3⟩ := hS; go_simp⟩) ⟨b0, b1, b2, b3, x0, x1, x2, x3⟩ ?_
  simp only [List.getElem_toArray, List.getElem_cons_zero, List.getElem_cons_succ, Act.put, List.setIfInBounds_toArray, List.set_cons_zero, List.set_cons_succ]
  refine oneU (i := 2) (by kernel_rfl) rfl (by rfl) ?_
  simp only [List.getElem_toArray, List.getElem_cons_zero, List.getElem_cons_succ]
  go_simp
  refine (HTO.out w8.drew (belNext HB8.out HD8.out)).mono ?_
  rintro e w9 ⟨v9, rfl, hv9, hb9⟩
  have hb89 : Below w8.heap.size w8 w9 := belNext HD8.out hb9
  have HV9 := hideN hv9
  have HY9 := hideN (IsE.below HV8.out hb89)
  have HD9 := hideN hb89
  clear b0 b1 b2 b3 x0 x1 x2 x3 hb9 hb89 hv9
  obtain ⟨b0, b1, b2, b3, x0, x1, x2, x3⟩ := HCX.out w9 HD9.out
  refine ⟨⟨b0, b1, b2, b3, x0, x1, x2, x3⟩, ?_⟩
  refine oneU (i := 3) (by kernel_rfl) rfl (by rfl) ?_
  simp only [List.getElem_toArray, List.getElem_cons_zero, List.getElem_cons_succ]
  go_simp
  refine (HEQ.out _ _ _ _ w9 HY9.out HV9.out).mono ?_
  rintro e w10 ⟨rfl, hb10⟩
  have HD10 := hideN (belNext HD9.out hb10)
  clear b0 b1 b2 b3 x0 x1 x2 x3 hb10
  obtain ⟨b0, b1, b2, b3, x0, x1, x2, x3⟩ := HCX.out w10 HD10.out
  refine ⟨⟨b0, b1, b2, b3, x0, x1, x2, x3⟩, ?_⟩
  refine oneU (i := 4) (by kernel_rfl) rfl (by rfl) ?_
  simp only [List.getElem_toArray, List.getElem_cons_zero, List.getElem_cons_succ]
  go_simp
  refine doneU (by kernel_rfl) ?_ _
  have HC10 := hideN (belNext HC8.out HD10.out)
  have HM10 := hideN (HM8.out.kept (Kp3.below HD10.out) _ _)
  have HG10 := hideN (HG8.out.below HD10.out)
  clear HCX
  -- marks in the copy
  go_wp2_with fail
  refine (HMK.out w4.heap.size w5.heap.size k5 n5 s5 ao5 m5 cap5 w10 HM10.out).mono ?_
  rintro e w11 ⟨z11, rfl, hz11, _, _, hc11⟩
  have HC11 : Hid (Below w4.heap.size w4 w11) := Chg.below HC10.out HC10.out.size hc11 (fun k h => h.1)
  have HG11 : Hid (Ownt w11 W6.heap.size (.slice ga gn gc) N) := ownt_of_block HG10.out (fun k e => hc11.block k (HG10.out.lt k e).2 (fun h => by have h1 := (HG10.out.lt k e).1; have h2 := h.2; omega))
  clear hc11 b0 b1 b2 b3 x0 x1 x2 x3
  have hz0 : decide ((z11 : Int) < 0) = false := by simp
  go_wp2_with fail
  refine (HES.out _ _ w11 HG11.out.isT (HCQ.out w11 HC11.out)).mono ?_
  rintro e w12 ⟨rfl, hb12⟩
  have HC12 := hideN (belNext HC11.out hb12)
  have HG12 := hideN (HG11.out.below hb12)
  clear hb12
  go_wp2_with fail
  -- marks in the answer
  refine (markStringS_own W6.heap.size gn gc 1 ga N w12 HG12.out HGL.out (by omega) (by omega)).mono ?_
  rintro e w13 ⟨rfl, hg13, hc13⟩
  have HC13 : Hid (Below w4.heap.size w4 w13) := Chg.below HC12.out HC12.out.size hc13 (fun k h => by have h1 := (HG12.out.lt k h).1; have h2 := HC6.out.size; omega)
  have HG13 := hideN hg13
  clear hg13 hc13
  go_wp2_with fail
  refine (heldStringS_any gn 1 _ w13 HG13.out.isT (by omega) (by omega)).mono ?_
  rintro e w14 ⟨rfl, hb14⟩
  have HC14 := hideN (belNext HC13.out hb14)
  have HG14 := hideN (HG13.out.below hb14)
  clear hb14
  have hq0 : decide (((1 + gn : Nat) : Int) < 0) = false := by simp; omega
  have b0 := (HCT.out w14 HC14.out).c0
  have b1 := (HCT.out w14 HC14.out).c1
  have b2 := (HCT.out w14 HC14.out).c2
  have b3 := (HCT.out w14 HC14.out).c3
  have HB14 := hideN (HCB.out w14 HC14.out)
  go_wp2_with fail
  refine (HTO.out w14 HB14.out).mono ?_
  rintro e w15 ⟨v15, rfl, hv15, hb15⟩
  have HC15 := hideN (belNext HC14.out hb15)
  have HG15 := hideN (HG14.out.below hb15)
  have HV15 := hideN hv15
  clear hv15 hb15 b0 b1 b2 b3
  go_wp2_with fail
  refine (HIM.out _ _ w15 HV15.out).mono ?_
  rintro e w16 ⟨ha, hn, hc, rfl, _, hho, hb16⟩
  have HC16 := hideN (belNext HC15.out hb16)
  have HG16 := hideN (HG15.out.below hb16)
  have HH16 := hideN hho.isT
  clear hho hb16
  go_wp2_with fail
  refine (HES.out _ _ w16 HH16.out (HCQ.out w16 HC16.out)).mono ?_
  rintro e w17 ⟨rfl, hb17⟩
  have HC17 := hideN (belNext HC16.out hb17)
  have HG17 := hideN (HG16.out.below hb17)
  clear hb17
  go_wp2_with fail
  refine (heldStringS_any gn 1 _ w17 HG17.out.isT (by omega) (by omega)).mono ?_
  rintro e w18 ⟨rfl, hb18⟩
  have HB18 := hideN (HCB.out w18 (belNext HC17.out hb18))
  clear hb18
  go_wp2_with fail
  go_ret
  exact ⟨rfl, HB18.out⟩

set_option maxRecDepth 100000 in
theorem fnExactExpNames_lifted (os : Os) (started : os.Started) (H : Type) (enc : TypeId × Value → H) :
    ReturnsInHanded {} Try.checked os 3 .any (Rows.fnExactExpNamesSpec.pre6 enc Try.prog Try.f3 Rows.fnExactExpNamesRow.domain false) (Rows.fnExactExpNamesSpec.post enc Try.prog Try.f3 false true false false) := by
  refine returnsInHanded_of_change (C := Try.checked) ownE started (by kernel_rfl) Try.func3
    (ChangeSpec.witness6 (enc := enc) (C := Try.checked) false ⟨#[], #[.agg #[.int .i64 0, .int .i64 0, .string ⟨#[]⟩, .slice none 0 0]], []⟩ 8 (by kernel_rfl) (by kernel_rfl) (by kernel_rfl) (by kernel_rfl)) ?_
  intro W base args ds gs before hval0 hW hcnd _
  have hval : ∀ (j : Nat) t v, Try.f3.params[j]? = some t → args[j]? = some v → Value.okWide Try.prog W .any base t v := hval0
  have hW' := hW
  obtain ⟨p, q, hA0, hV, rfl, hfz, hnd⟩ := hW
  have hA : DataW.TrodAll enc Try.prog W 0 (fun _ => true) true Try.f3.params.toList args.toList ds p := hA0
  rw [Try.params3] at hA hval
  obtain ⟨v0, vs0, d0, ds0, p0, q0, hargs, rfl, rfl, h0, r0⟩ := trodAll_cons hA
  obtain ⟨rfl, rfl, rfl⟩ := trodAll_nil r0
  obtain rfl : args = #[v0] := by cases args; simp_all
  obtain ⟨rfl, rfl⟩ := trodVars_none hV
  have k0 := h0
  have lt0 : ∀ x ∈ p0, x.block < W.heap.size := by obtain ⟨m, hm⟩ := k0; exact DataW.trod_lt m _ _ _ hm
  obtain ⟨t, hE⟩ := exp_of_trod (hval 0 24 v0 rfl rfl) h0
  clear hA0 hval0
  refine (fnExactExpNames_walk t v0 W hE).mono fun e W' ⟨he, bel⟩ => ?_
  subst he
  exact ⟨_, rfl, _, _, _, [], _, [], hW', trodAll_mk1 (shut_bool Try.underlying4 _), (trodAll_cons_mk (Below.trod laidOutE (by kernel_rfl) (of_decide_eq_true (by kernel_rfl)) k0 bel lt0) trodAll_mk0), rfl, bel.frame _, fun h => by cases h⟩

theorem fnExactExpNames_holds : Rows.FnExactExpNamesSaid :=
  OpenClaim.holds_of_wide 3 Try.f3 rfl rfl rfl rfl rfl rfl rfl ⟨rfl, rfl, rfl, rfl, rfl⟩ rfl rfl rfl rfl rfl (by kernel_rfl) Try.func3 (by kernel_rfl)
    (of_decide_eq_true (by kernel_rfl)) (by unfold Func.isWrapper; first | (rw [if_pos (by decide +kernel)]; kernel_rfl) | (rw [if_neg (by decide +kernel)]; exact ⟨rfl, rfl⟩))
    (fun os started H enc _ => fnExactExpNames_lifted os started H enc)

end Go.Proofs.Ythflidipkjpgcaa
