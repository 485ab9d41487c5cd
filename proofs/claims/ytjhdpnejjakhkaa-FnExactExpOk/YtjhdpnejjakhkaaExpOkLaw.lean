/-
  The law FnExactExpOk: at every expression the program's ExpOk answers as the model's, and writes into no argument. No condition: every argument that can be read.
-/
import Derived.Test.YtjhdpnejjakhkaaExpH
import Derived.Test.YtjhdpnejjakhkaaExpQ
import Derived.Test.YtjhdpnejjakhkaaExpO
namespace Go.Proofs.Ytjhdpnejjakhkaa
open Go.ChangeShapes Go.WideShapes Go.ChangeAt Go.RowKit Go.Deep Go.Joins
set_option linter.unusedVariables false

theorem laidOutE : laidOutB Try.prog = true := by kernel_rfl

set_option maxRecDepth 100000 in
set_option maxHeartbeats 4000000 in
theorem fnExactExpOk_walk (t : ExpT) (v : Value) (w : World) (hE : IsE w 0 t v) :
    Calls Try.prog 3 #[v] w fun e w' => e = .returned (.bool true) ∧ Below w.heap.size w w' := by
  have HSZ := hideN (fun W (hV : Below w.heap.size w W) => szExp_any 0 t v W 1048576 (by omega) (by omega) (IsE.below hE hV))
  have HEB := hideN (fun W (hV : Below w.heap.size w W) => IsE.below hE hV)
  obtain ⟨k, n, s, ao, m, cap, rfl⟩ := hE.agg
  obtain ⟨W1, hW1⟩ : ∃ W1, W1 = w.alloc (.cells #[.int .i64 k, .int .i64 n, .string s, .slice ao m cap] 24) := ⟨_, rfl⟩
  have HB1 : Hid (Below w.heap.size w W1) := by rw [hW1]; exact belOne _ _
  have HK : Hid (BlkE W1 w.heap.size (.int .i64 k) (.int .i64 n) (.string s) (.slice ao m cap) 24) := by rw [hW1]; exact BlkE.new _ _ _ _ _ _
  have HW1 := hideN hW1
  clear hE hW1
  by_cases hbig : totE t ≤ 1048576
  case neg =>
    have hl : leftI (totE t) 1048576 = -1 := by unfold leftI; rw [if_neg (by omega)]
    go_enter Try.func3, Try.ntmps3
    go_wp2_with fail
    try rw [← HW1.out]
    refine (HSZ.out W1 HB1.out).mono ?_
    rintro e w2 ⟨rfl, hb2⟩
    rw [hl]
    have HB2 := hideN (belNext HB1.out hb2)
    clear hb2
    go_wp2_with fail
    go_ret
    exact ⟨rfl, HB2.out⟩
  obtain ⟨z, hz⟩ : ∃ z : Nat, leftI (totE t) 1048576 = (z : Int) := ⟨1048576 - totE t, by unfold leftI; rw [if_pos (by omega)]; omega⟩
  have HTO := hideN (fun W (hV : Below w.heap.size w W) => toExp_any 0 t _ W hbig (HEB.out W hV))
  have HSP := hideN (fun lo v W (h : IsE W lo t v) => specExpOk_any lo t hbig v W h)
  have HIM := hideN (fun lo v W (h : IsE W lo t v) => implExpOk_any lo t hbig v W h)
  have HEQ := hideN (fun lo1 lo2 v u W (h1 : IsE W lo1 t v) (h2 : IsE W lo2 t u) => eqExp_any lo1 lo2 t hbig v u W h1 h2)
  generalize okE t = r at *
  have b0 := HK.out.c0
  have b1 := HK.out.c1
  have b2 := HK.out.c2
  have b3 := HK.out.c3
  go_enter Try.func3, Try.ntmps3
  go_wp2_with fail
  try rw [← HW1.out]
  refine (HSZ.out W1 HB1.out).mono ?_
  rintro e w2 ⟨rfl, hb2⟩
  rw [hz]
  have HB12 := hideN hb2
  have HB2 := hideN (belNext HB1.out hb2)
  clear hb2 b0 b1 b2 b3
  have b0 := (HK.out.below HB12.out).c0
  have b1 := (HK.out.below HB12.out).c1
  have b2 := (HK.out.below HB12.out).c2
  have b3 := (HK.out.below HB12.out).c3
  go_wp2_with fail
  refine (HTO.out w2 HB2.out).mono ?_
  rintro e w3 ⟨v3, rfl, hv3, hb3⟩
  have HB3 := hideN (belNext HB2.out hb3)
  have HT3 := hideN ((HK.out.below HB12.out).below hb3)
  have HV3 := hideN hv3
  clear hb3 b0 b1 b2 b3 hv3
  have b0 := HT3.out.c0
  have b1 := HT3.out.c1
  have b2 := HT3.out.c2
  have b3 := HT3.out.c3
  go_wp2_with fail
  refine (HSP.out _ v3 w3 HV3.out).mono ?_
  rintro e w4 ⟨rfl, hb4⟩
  have HB4 := hideN (belNext HB3.out hb4)
  have HT4 := hideN (HT3.out.below hb4)
  clear hb4 b0 b1 b2 b3
  have b0 := HT4.out.c0
  have b1 := HT4.out.c1
  have b2 := HT4.out.c2
  have b3 := HT4.out.c3
  go_wp2_with fail
  refine (HTO.out w4 HB4.out).mono ?_
  rintro e w5 ⟨v5, rfl, hv5, hb5⟩
  obtain ⟨k5, n5, s5, ao5, m5, cap5, rfl⟩ := hv5.agg
  have HB5 := hideN (belNext HB4.out hb5)
  have HT5 := hideN (HT4.out.below hb5)
  have HV5 := hideN hv5
  clear hb5 b0 b1 b2 b3 hv5
  have b0 := HT5.out.c0
  have b1 := HT5.out.c1
  have b2 := HT5.out.c2
  have b3 := HT5.out.c3
  obtain ⟨W6, hW6⟩ : ∃ W6, W6 = w5.alloc (.cells #[.int .i64 k5, .int .i64 n5, .string s5, .slice ao5 m5 cap5] 29) := ⟨_, rfl⟩
  have hb6 : Below w5.heap.size w5 W6 := by rw [hW6]; exact belOne _ _
  have HX6 : Hid (BlkE W6 w5.heap.size (.int .i64 k5) (.int .i64 n5) (.string s5) (.slice ao5 m5 cap5) 29) := by rw [hW6]; exact BlkE.new _ _ _ _ _ _
  have HB6 := hideN (belNext HB5.out hb6)
  have HT6 := hideN (HT5.out.below hb6)
  have HV6 := hideN (IsE.below HV5.out hb6)
  have HW6 := hideN hW6
  clear hW6 hb6
  go_wp2_with fail
  try rw [← HW6.out]
  refine (HIM.out _ _ W6 HV6.out).mono ?_
  rintro e w7 ⟨rfl, hb7⟩
  have HB7 := hideN (belNext HB6.out hb7)
  have HT7 := hideN (HT6.out.below hb7)
  have HX7 := hideN (HX6.out.below hb7)
  have HV7 := hideN (IsE.below HV6.out hb7)
  clear hb7 b0 b1 b2 b3
  have b0 := HT7.out.c0
  have b1 := HT7.out.c1
  have b2 := HT7.out.c2
  have b3 := HT7.out.c3
  have x0 := HX7.out.c0
  have x1 := HX7.out.c1
  have x2 := HX7.out.c2
  have x3 := HX7.out.c3
  go_wp2_with fail
  go_region_held3 (fun w' => w'.cell? ⟨w.heap.size, 0, none⟩ = some (.int .i64 k) ∧ w'.cell? ⟨w.heap.size, 1, none⟩ = some (.int .i64 n) ∧ w'.cell? ⟨w.heap.size, 2, none⟩ = some (.string s) ∧ w'.cell? ⟨w.heap.size, 3, none⟩ = some (.slice ao m cap) ∧ w'.cell? ⟨w5.heap.size, 0, none⟩ = some (.int .i64 k5) ∧ w'.cell? ⟨w5.heap.size, 1, none⟩ = some (.int .i64 n5) ∧ w'.cell? ⟨w5.heap.size, 2, none⟩ = some (.string s5) ∧ w'.cell? ⟨w5.heap.size, 3, none⟩ = some (.slice ao5 m5 cap5))
    (first | exact ⟨by assumption, by assumption, by assumption, by assumption, by assumption, by assumption, by assumption, by assumption⟩ | (go_keep; done))
    (first
      | (go_simp; go_at_call 7; refine (HTO.out _ (by first | exact HB7.out | exact HB7.out.drew)).mono ?_; rintro e w8 ⟨v8, rfl, hv8, hbz⟩; have hb8 : Below w7.heap.size w7 w8 := (by first | exact hbz | exact undrew hbz); have HB8 : Hid (Below w.heap.size w w8) := belNext HB7.out hb8; have HT8 := hideN (HT7.out.below hb8); have HX8 := hideN (HX7.out.below hb8); have HV8 := hideN (IsE.below HV7.out hb8); have HM8 := hideN hv8; have t0 := HT8.out.c0; have t1 := HT8.out.c1; have t2 := HT8.out.c2; have t3 := HT8.out.c3; have y0 := HX8.out.c0; have y1 := HX8.out.c1; have y2 := HX8.out.c2; have y3 := HX8.out.c3; clear hb8 hbz hv8)
      | (go_simp; go_at_call 9; refine (HEQ.out _ _ _ _ _ HV8.out HM8.out).mono ?_; rintro e w9 ⟨rfl, hbz⟩; have HB9 : Hid (Below w.heap.size w w9) := belNext HB8.out hbz; have HT9 := hideN (HT8.out.below hbz); have HX9 := hideN (HX8.out.below hbz); have s0 := HT9.out.c0; have s1 := HT9.out.c1; have s2 := HT9.out.c2; have s3 := HT9.out.c3; have u0 := HX9.out.c0; have u1 := HX9.out.c1; have u2 := HX9.out.c2; have u3 := HX9.out.c3; clear hbz))
  all_goals go_wp2
  all_goals go_ret
  all_goals exact ⟨rfl, HB9.out⟩

set_option maxRecDepth 100000 in
theorem fnExactExpOk_lifted (os : Os) (started : os.Started) (H : Type) (enc : TypeId × Value → H) :
    ReturnsInHanded {} Try.checked os 3 .any (Rows.fnExactExpOkSpec.pre6 enc Try.prog Try.f3 Rows.fnExactExpOkRow.domain false) (Rows.fnExactExpOkSpec.post enc Try.prog Try.f3 false true false false) := by
  refine returnsInHanded_of_change (C := Try.checked) ownE started (by kernel_rfl) Try.func3
    (ChangeSpec.witness6 (enc := enc) (C := Try.checked) false ⟨#[], #[.agg #[.int .i64 0, .int .i64 0, .string ⟨#[]⟩, .slice none 0 0]], []⟩ 8 (by kernel_rfl) (by kernel_rfl) (by kernel_rfl) (by kernel_rfl)) ?_
  intro W base args ds gs before hval0 hW hcnd _
  have hval : ∀ (j : Nat) t v, Try.f3.params[j]? = some t → args[j]? = some v → Value.okWide Try.prog W .any base t v := hval0
  have hW' := hW
  obtain ⟨p, q, hA0, hV, rfl, hfz, hnd⟩ := hW
  have hA : DataW.TrodAll enc Try.prog W 0 (fun _ => true) true Try.f3.params.toList args.toList ds p := hA0
  rw [Try.params3] at hA hval
  obtain ⟨v0, vs0, d0, ds0, p0, q0, hargs, rfl, rfl, h0, r0⟩ := trodAll_cons hA
  obtain ⟨rfl, rfl, rfl⟩ := trodAll_nil r0
  obtain rfl : args = #[v0] := by cases args; simp_all
  obtain ⟨rfl, rfl⟩ := trodVars_none hV
  have k0 := h0
  have lt0 : ∀ x ∈ p0, x.block < W.heap.size := by obtain ⟨m, hm⟩ := k0; exact DataW.trod_lt m _ _ _ hm
  obtain ⟨t, hE⟩ := exp_of_trod (hval 0 24 v0 rfl rfl) h0
  clear hA0 hval0
  refine (fnExactExpOk_walk t v0 W hE).mono fun e W' ⟨he, bel⟩ => ?_
  subst he
  exact ⟨_, rfl, _, _, _, [], _, [], hW', trodAll_mk1 (shut_bool Try.underlying4 _), (trodAll_cons_mk (Below.trod laidOutE (by kernel_rfl) (of_decide_eq_true (by kernel_rfl)) k0 bel lt0) trodAll_mk0), rfl, bel.frame _, fun h => by cases h⟩

theorem fnExactExpOk_holds : Rows.FnExactExpOkSaid :=
  OpenClaim.holds_of_wide 3 Try.f3 rfl rfl rfl rfl rfl rfl rfl ⟨rfl, rfl, rfl, rfl, rfl⟩ rfl rfl rfl rfl rfl (by kernel_rfl) Try.func3 (by kernel_rfl)
    (of_decide_eq_true (by kernel_rfl)) (by unfold Func.isWrapper; first | (rw [if_pos (by decide +kernel)]; kernel_rfl) | (rw [if_neg (by decide +kernel)]; exact ⟨rfl, rfl⟩))
    (fun os started H enc _ => fnExactExpOk_lifted os started H enc)

end Go.Proofs.Ytjhdpnejjakhkaa
