/-
  The law FnExactExpShow: at every expression the program's ExpShow answers as the model's, and writes into no argument. Its card is tied: the table of tens is what the program's text lays.
-/
import Derived.Test.YthbjihamhfahcaaDoorExpH
import Derived.Test.YthbjihamhfahcaaDoorExpQ
import Derived.Test.YthbjihamhfahcaaDoorExpO
import Derived.Test.YthbjihamhfahcaaDoorShC
import Derived.Test.YthbjihamhfahcaaDoorShE
import Derived.Test.YthbjihamhfahcaaDoorCards
import Derived.Test.YthbjihamhfahcaaDoorTie
import Derived.LaidMore
import Derived.LaidHandle
import Derived.MakeChecks
import Derived.Lib.LaidTab
import Derived.SevenTiedAt
namespace Go.Proofs.YthbjihamhfahcaaDoor
open Go.ChangeShapes Go.WideShapes Go.ChangeAt Go.RowKit Go.Deep Go.Joins
set_option linter.unusedVariables false

theorem laidOutE : laidOutB Tryd.prog = true := by kernel_rfl

set_option maxRecDepth 100000 in
set_option maxHeartbeats 4000000 in
theorem fnExactExpShow_walk (t : ExpT) (v : Value) (w : World) (hI : ItoaSays w) (hE : IsE w 0 t v) :
    Calls Tryd.prog 3 #[v] w fun e w' => e = .returned (.bool true) ∧ Below w.heap.size w w' := by
  have HSZ := hideN (fun W (hV : Below w.heap.size w W) => szExp_any 0 t v W 1048576 (by omega) (by omega) (IsE.below hE hV))
  have HEB := hideN (fun W (hV : Below w.heap.size w W) => IsE.below hE hV)
  obtain ⟨k, n, s, ao, m, cap, rfl⟩ := hE.agg
  obtain ⟨W1, hW1⟩ : ∃ W1, W1 = w.alloc (.cells #[.int .i64 k, .int .i64 n, .string s, .slice ao m cap] 24) := ⟨_, rfl⟩
  have HB1 : Hid (Below w.heap.size w W1) := by rw [hW1]; exact belOne _ _
  have HK : Hid (BlkE W1 w.heap.size (.int .i64 k) (.int .i64 n) (.string s) (.slice ao m cap) 24) := by rw [hW1]; exact BlkE.new _ _ _ _ _ _
  have HW1 := hideN hW1
  clear hE hW1
  by_cases hbig : totE t ≤ 1048576
  case neg =>
    have hl : leftI (totE t) 1048576 = -1 := by unfold leftI; rw [if_neg (by omega)]
    go_enter Tryd.func3, Tryd.ntmps3
    go_wp2_with fail
    try rw [← HW1.out]
    refine (HSZ.out W1 HB1.out).mono ?_
    rintro e w2 ⟨rfl, hb2⟩
    rw [hl]
    have HB2 := hideN (belNext HB1.out hb2)
    clear hb2
    go_wp2_with fail
    go_ret
    exact ⟨rfl, HB2.out⟩
  obtain ⟨z, hz⟩ : ∃ z : Nat, leftI (totE t) 1048576 = (z : Int) := ⟨1048576 - totE t, by unfold leftI; rw [if_pos (by omega)]; omega⟩
  have HTO := hideN (fun W (hV : Below w.heap.size w W) => toExp_any 0 t _ W hbig (HEB.out W hV))
  have HSP := hideN (fun lo v W (h : IsE W lo t v) => specExpShow_any lo t hbig v W h)
  have HIM := hideN (fun lo v W (hW : Below w.heap.size w W) (h : IsE W lo t v) => implExpShow_any w hI lo t hbig v W hW h)
  have HEQ := hideN (fun lo1 lo2 v u W (h1 : IsE W lo1 t v) (h2 : IsE W lo2 t u) => eqExp_any lo1 lo2 t hbig v u W h1 h2)
  generalize (if okE t = true then showT t else (⟨#[]⟩ : ByteArray)) = X at *
  clear hI
  unfold TextPost at *
  have b0 := HK.out.c0
  have b1 := HK.out.c1
  have b2 := HK.out.c2
  have b3 := HK.out.c3
  go_enter Tryd.func3, Tryd.ntmps3
  go_wp2_with fail
  try rw [← HW1.out]
  refine (HSZ.out W1 HB1.out).mono ?_
  rintro e w2 ⟨rfl, hb2⟩
  rw [hz]
  have HB12 := hideN hb2
  have HB2 := hideN (belNext HB1.out hb2)
  clear hb2 b0 b1 b2 b3
  have b0 := (HK.out.below HB12.out).c0
  have b1 := (HK.out.below HB12.out).c1
  have b2 := (HK.out.below HB12.out).c2
  have b3 := (HK.out.below HB12.out).c3
  go_wp2_with fail
  refine (HTO.out w2 HB2.out).mono ?_
  rintro e w3 ⟨v3, rfl, hv3, hb3⟩
  have HB3 := hideN (belNext HB2.out hb3)
  have HT3 := hideN ((HK.out.below HB12.out).below hb3)
  have HV3 := hideN hv3
  clear hb3 b0 b1 b2 b3 hv3
  have b0 := HT3.out.c0
  have b1 := HT3.out.c1
  have b2 := HT3.out.c2
  have b3 := HT3.out.c3
  go_wp2_with fail
  refine (HSP.out _ v3 w3 HV3.out).mono ?_
  rintro e w4 ⟨rfl, hb4⟩
  have HB4 := hideN (belNext HB3.out hb4)
  have HT4 := hideN (HT3.out.below hb4)
  clear hb4 b0 b1 b2 b3
  have b0 := HT4.out.c0
  have b1 := HT4.out.c1
  have b2 := HT4.out.c2
  have b3 := HT4.out.c3
  go_wp2_with fail
  refine (HTO.out w4 HB4.out).mono ?_
  rintro e w5 ⟨v5, rfl, hv5, hb5⟩
  obtain ⟨k5, n5, s5, ao5, m5, cap5, rfl⟩ := hv5.agg
  have HB5 := hideN (belNext HB4.out hb5)
  have HT5 := hideN (HT4.out.below hb5)
  have HV5 := hideN hv5
  clear hb5 b0 b1 b2 b3 hv5
  have b0 := HT5.out.c0
  have b1 := HT5.out.c1
  have b2 := HT5.out.c2
  have b3 := HT5.out.c3
  obtain ⟨W6, hW6⟩ : ∃ W6, W6 = w5.alloc (.cells #[.int .i64 k5, .int .i64 n5, .string s5, .slice ao5 m5 cap5] 29) := ⟨_, rfl⟩
  have hb6 : Below w5.heap.size w5 W6 := by rw [hW6]; exact belOne _ _
  have HX6 : Hid (BlkE W6 w5.heap.size (.int .i64 k5) (.int .i64 n5) (.string s5) (.slice ao5 m5 cap5) 29) := by rw [hW6]; exact BlkE.new _ _ _ _ _ _
  have HB6 := hideN (belNext HB5.out hb6)
  have HT6 := hideN (HT5.out.below hb6)
  have HV6 := hideN (IsE.below HV5.out hb6)
  have HW6 := hideN hW6
  clear hW6 hb6
  go_wp2_with fail
  try rw [← HW6.out]
  refine (HIM.out _ _ W6 HB6.out HV6.out).mono ?_
  rintro e w7 ⟨rfl, hb7⟩
  have HB7 := hideN (belNext HB6.out hb7)
  have HT7 := hideN (HT6.out.below hb7)
  have HX7 := hideN (HX6.out.below hb7)
  have HV7 := hideN (IsE.below HV6.out hb7)
  clear hb7 b0 b1 b2 b3
  have b0 := HT7.out.c0
  have b1 := HT7.out.c1
  have b2 := HT7.out.c2
  have b3 := HT7.out.c3
  have x0 := HX7.out.c0
  have x1 := HX7.out.c1
  have x2 := HX7.out.c2
  have x3 := HX7.out.c3
  go_wp2_with fail
  go_region_held3 (fun w' => w'.cell? ⟨w.heap.size, 0, none⟩ = some (.int .i64 k) ∧ w'.cell? ⟨w.heap.size, 1, none⟩ = some (.int .i64 n) ∧ w'.cell? ⟨w.heap.size, 2, none⟩ = some (.string s) ∧ w'.cell? ⟨w.heap.size, 3, none⟩ = some (.slice ao m cap) ∧ w'.cell? ⟨w5.heap.size, 0, none⟩ = some (.int .i64 k5) ∧ w'.cell? ⟨w5.heap.size, 1, none⟩ = some (.int .i64 n5) ∧ w'.cell? ⟨w5.heap.size, 2, none⟩ = some (.string s5) ∧ w'.cell? ⟨w5.heap.size, 3, none⟩ = some (.slice ao5 m5 cap5))
    (first | exact ⟨by assumption, by assumption, by assumption, by assumption, by assumption, by assumption, by assumption, by assumption⟩ | (go_keep; done))
    (first
      | (go_simp; go_at_call 6; refine (HTO.out _ (by first | exact HB7.out | exact HB7.out.drew)).mono ?_; rintro e w8 ⟨v8, rfl, hv8, hbz⟩; have hb8 : Below w7.heap.size w7 w8 := (by first | exact hbz | exact undrew hbz); have HB8 : Hid (Below w.heap.size w w8) := belNext HB7.out hb8; have HT8 := hideN (HT7.out.below hb8); have HX8 := hideN (HX7.out.below hb8); have HV8 := hideN (IsE.below HV7.out hb8); have HM8 := hideN hv8; have t0 := HT8.out.c0; have t1 := HT8.out.c1; have t2 := HT8.out.c2; have t3 := HT8.out.c3; have y0 := HX8.out.c0; have y1 := HX8.out.c1; have y2 := HX8.out.c2; have y3 := HX8.out.c3; clear hb8 hbz hv8)
      | (go_simp; go_at_call 8; refine (HEQ.out _ _ _ _ _ HV8.out HM8.out).mono ?_; rintro e w9 ⟨rfl, hbz⟩; have HB9 : Hid (Below w.heap.size w w9) := belNext HB8.out hbz; have HT9 := hideN (HT8.out.below hbz); have HX9 := hideN (HX8.out.below hbz); have s0 := HT9.out.c0; have s1 := HT9.out.c1; have s2 := HT9.out.c2; have s3 := HT9.out.c3; have u0 := HX9.out.c0; have u1 := HX9.out.c1; have u2 := HX9.out.c2; have u3 := HX9.out.c3; clear hbz))
  all_goals go_wp2
  all_goals go_ret
  all_goals exact ⟨rfl, HB9.out⟩

/-- What the row lays. -/
def laid3 : List (String × DataW Unit) := Rows.fnExactExpShowRow.laid

theorem tab_t : (((Tryd.prog).globalNamed tabN).bind fun g => ((Tryd.prog).globals[g]?).map (·.type)).map (fun t => ((Tryd.prog).underlying t, (Tryd.prog).cellsOf t)) = some (some (.array 20 79), 20) := by kernel_rfl
theorem cells64 : (Tryd.prog).cellsOf 79 = 1 := by kernel_rfl

theorem tab_of_laid {W : World} (h : laidMetH Tryd.prog laid3 W) : Lib.TabIs Tryd.prog W tabN .u64 Lib.pow10Tab := by
  rw [MakeChecks.laidMetH_plain _ _ _ (by kernel_rfl)] at h
  obtain ⟨ps, ⟨g0, t0, cs0, f0, p0, q0, hg0, ht0, hv0, hd0, ⟨g1, t1, cs1, f1, p1, q1, hg1, ht1, hv1, hd1, ⟨g2, t2, cs2, f2, p2, q2, hg2, ht2, hv2, hd2, _, _⟩, _⟩, _⟩, _⟩ := h
  have hg3 : (Tryd.prog).globalNamed tabN = some g2 := hg2
  have hv3 : W.var? Tryd.prog tabN = some cs2 := hv2
  have ht := tab_t
  rw [hg3, Option.bind_some, ht2, Option.map_some] at ht
  have ht1 := Option.some.inj ht
  have e1 : (Tryd.prog).underlying t2 = some (.array 20 79) := congrArg Prod.fst ht1
  have e2 : (Tryd.prog).cellsOf t2 = 20 := congrArg Prod.snd ht1
  unfold Lib.TabIs
  have hd3 : DataW.trod (fun _ => ()) Tryd.prog W 0 (fun _ => true) false f2 t2 cs2.toList = some (Lib.tabData .u64 Lib.pow10Tab, p2) := hd2
  rw [hv3, ← Lib.cells_of_tab e1 Tryd.underlying79 cells64 e2 hd3]

theorem door_met (os : Os) (args : Array Value) : laidMetH Tryd.prog laid3 ((World.doorLaid Tryd.prog 4000 os).forCall (fun _ _ => 0) ⟨#[], args, []⟩).memory :=
  laidMetH_of_parts3 (fuel := 8) (laidMet_of_run' 8 (by kernel_rfl) (by kernel_rfl)) (by kernel_rfl) (by kernel_rfl)

set_option maxRecDepth 100000 in
theorem fnExactExpShow_lifted (os : Os) (started : os.Started) (H : Type) (enc : TypeId × Value → H) :
    ReturnsInHanded {} Tryd.checked os 3 .any (fun w args => (Rows.fnExactExpShowSpec.pre enc Tryd.prog Tryd.f3 [] false w args ∧ laidMetH Tryd.prog laid3 w) ∧ sizedMet enc Tryd.prog Tryd.f3 (OpenSpec.ofChange Rows.fnExactExpShowSpec) false w args) (Rows.fnExactExpShowSpec.post enc Tryd.prog Tryd.f3 false true false false) := by
  refine returnsInHanded_of_change_and (C := Tryd.checked) (X := fun w _ => laidMetH Tryd.prog laid3 w) (fun _ _ _ hh h => h.of_heap hh) ownE started (by kernel_rfl) Tryd.func3
    (ChangeSpec.witness_shaped (enc := enc) (C := Tryd.checked) (os := os) (X := fun w _ => laidMetH Tryd.prog laid3 w) false (World.doorLaid Tryd.prog 4000 os) #[.agg #[.int .i64 0, .int .i64 0, .string ⟨#[]⟩, .slice none 0 0]] 8 rfl (World.shaped_of_RefB (by kernel_rfl) (by kernel_rfl)) (by kernel_rfl) (by kernel_rfl) (by kernel_rfl) (door_met os _)) ?_
  intro W base args ds gs before hval0 hW hcnd _ hL _
  have hval : ∀ (j : Nat) t v, Tryd.f3.params[j]? = some t → args[j]? = some v → Value.okWide Tryd.prog W .any base t v := hval0
  have hW' := hW
  obtain ⟨p, q, hA0, hV, rfl, hfz, hnd⟩ := hW
  have hA : DataW.TrodAll enc Tryd.prog W 0 (fun _ => true) true Tryd.f3.params.toList args.toList ds p := hA0
  rw [Tryd.params3] at hA hval
  obtain ⟨v0, vs0, d0, ds0, p0, q0, hargs, rfl, rfl, h0, r0⟩ := trodAll_cons hA
  obtain ⟨rfl, rfl, rfl⟩ := trodAll_nil r0
  obtain rfl : args = #[v0] := by cases args; simp_all
  obtain ⟨rfl, rfl⟩ := trodVars_none hV
  have k0 := h0
  have lt0 : ∀ x ∈ p0, x.block < W.heap.size := by obtain ⟨m, hm⟩ := k0; exact DataW.trod_lt m _ _ _ hm
  obtain ⟨t, hE⟩ := exp_of_trod (hval 0 24 v0 rfl rfl) h0
  clear hA0 hval0
  refine (fnExactExpShow_walk t v0 W (itoa_says W (tab_of_laid hL)) hE).mono fun e W' ⟨he, bel⟩ => ?_
  subst he
  exact ⟨_, rfl, _, _, _, [], _, [], hW', trodAll_mk1 (shut_bool Tryd.underlying4 _), (trodAll_cons_mk (Below.trod laidOutE (by kernel_rfl) (of_decide_eq_true (by kernel_rfl)) k0 bel lt0) trodAll_mk0), rfl, bel.frame _, fun h => by cases h⟩

theorem fnExactExpShow_holds : Rows.FnExactExpShowSaid :=
  OpenClaim.holds_of_wide 3 Tryd.f3 rfl rfl rfl rfl rfl rfl rfl ⟨rfl, rfl, rfl, rfl, rfl⟩ rfl rfl rfl rfl rfl (by kernel_rfl) Tryd.func3 (by kernel_rfl)
    (of_decide_eq_true (by kernel_rfl)) (by unfold Func.isWrapper; first | (rw [if_pos (by decide +kernel)]; kernel_rfl) | (rw [if_neg (by decide +kernel)]; exact ⟨rfl, rfl⟩))
    (fun os started H enc _ => fnExactExpShow_lifted os started H enc)

theorem fnExactExpShow_card_holds : Rows.FnExactExpShowCardSaid :=
  Claim7.holds_tied_plain_at .later [] [.data, .data, .data] true _ true
    fnExactExpShow_holds (fun _ h => by cases h) (by kernel_rfl) (fun _ h => by cases h) fnExactExpShow_row_tie rfl ⟨rfl, rfl⟩ (by kernel_rfl) rfl
    (fun f fn hf hfn => by
      obtain rfl : f = 3 := Option.some.inj ((show (Tryd.prog).funcNamed Rows.fnExactExpShowRow.func = some 3 by kernel_rfl).symm.trans hf) |>.symm
      obtain rfl : fn = Tryd.f3 := (Option.some.inj (Tryd.func3.symm.trans hfn)).symm
      exact ⟨by kernel_rfl, fun j t ht => by
        rw [Tryd.params3] at ht
        have hm : t ∈ [(24 : TypeId)] := by simpa using Array.mem_of_getElem? ht
        have hall : ([(24 : TypeId)].all fun u => !(Tryd.prog).wantsStandIn u) = true := by kernel_rfl
        exact (show (Tryd.prog).wantsStandIn t = false by simpa using List.all_eq_true.1 hall t hm)⟩)
    (by kernel_rfl)

end Go.Proofs.YthbjihamhfahcaaDoor
