/-
  The law FnExactBddCount: at every diagram the program's BddCount answers as the model's, and writes into no argument. No condition: every argument that can be read.
-/
import Derived.Test.YtlbmlhncioampaaCopN
import Derived.Test.YtlbmlhncioampaaBdCc
import Derived.Test.YtlbmlhncioampaaOpenB
import Derived.Deep.RegionHeld3
namespace Go.Proofs.Ytlbmlhncioampaa
open Go.ChangeShapes Go.WideShapes Go.ChangeAt Go.RowKit Go.Deep Go.Joins
set_option linter.unusedVariables false

set_option maxRecDepth 100000 in
set_option maxHeartbeats 4000000 in
theorem fnExactBddCount_walk (vi root : Int) (ao : Option Addr) (n cap : Nat) (ns : List Nd) (w : World) (hN : Nds w ao n cap ns) (hml : n ≤ maxLen) (h64 : ∀ p ∈ ns, I64N p) (hr : I64 root) :
    Calls Try.prog 11 #[.agg #[.int .i64 vi, .slice ao n cap, .int .i64 root]] w fun e w' => e = .returned (.bool true) ∧ Below w.heap.size w w' := by
  have HN : Hid (∀ w', Below w.heap.size w w' → Nds w' ao n cap ns) := fun w' h => hN.below h
  have HL := hideN hN.len
  have H64 := hideN h64
  have HR := hideN hr
  obtain ⟨W1, hW1⟩ : ∃ W1, W1 = w.alloc (.cells #[.int .i64 vi, .slice ao n cap, .int .i64 root] 24) := ⟨_, rfl⟩
  have HB1 : Hid (Below w.heap.size w W1) := by rw [hW1]; exact belOne _ _
  have HT1 : Hid (BlkL W1 w.heap.size (.int .i64 vi) (.slice ao n cap) (.int .i64 root)) := by rw [hW1]; exact BlkL.new _ _ _ _
  have HW1 := hideN hW1
  have HSZ := hideN (szBdd_any vi root ao n cap 1048576 W1 hml (by omega) (by omega))
  clear hN h64 hr hW1
  by_cases hbig : n ≤ 1048576
  case neg =>
    have HZ : Hid ((if (n : Int) ≤ 1048576 then 1048576 - (n : Int) else -1) = -1) := by show _ = _; rw [if_neg (by omega)]
    go_enter Try.func11, Try.ntmps11
    go_wp2_with fail
    rw [← HW1.out]
    refine HSZ.out.mono ?_
    rintro e w2 ⟨rfl, hb2⟩
    have HB2 := hideN (belNext HB1.out hb2)
    clear hb2
    rw [HZ.out]
    go_wp2
    go_ret
    exact ⟨rfl, HB2.out⟩
  have HZ : Hid ((if (n : Int) ≤ 1048576 then 1048576 - (n : Int) else -1) = 1048576 - (n : Int)) := by show _ = _; rw [if_pos (by omega)]
  go_enter Try.func11, Try.ntmps11
  go_wp2_with fail
  rw [← HW1.out]
  refine HSZ.out.mono ?_
  rintro e w2 ⟨rfl, hb2⟩
  have HB2 := hideN (belNext HB1.out hb2)
  have HT2 := hideN (HT1.out.below hb2)
  clear hb2
  rw [HZ.out]
  have c0 := HT2.out.c0
  have c1 := HT2.out.c1
  have c2 := HT2.out.c2
  have c3 := HT2.out.lt
  go_wp2_with fail
  refine (toBdd_any vi root ao n cap ns w2 (HN.out _ HB2.out) hbig).mono ?_
  rintro e w3 ⟨b3, rfl, hb3, _, hn3⟩
  have HB3 := hideN (belNext HB2.out hb3)
  have HT3 := hideN (HT2.out.below hb3)
  have HN3 := hideN hn3
  clear hb3 hn3 c0 c1 c2 c3
  go_wp2_with fail
  refine (specBddCount_any vi root _ n n ns w3 HN3.out H64.out HR.out (by omega)).mono ?_
  rintro e w4 ⟨rfl, hb4⟩
  have HB4 := hideN (belNext HB3.out hb4)
  have HT4 := hideN (HT3.out.below hb4)
  clear hb4
  have c0 := HT4.out.c0
  have c1 := HT4.out.c1
  have c2 := HT4.out.c2
  have c3 := HT4.out.lt
  go_wp2_with fail
  refine (toBdd_any vi root ao n cap ns w4 (HN.out _ HB4.out) hbig).mono ?_
  rintro e w5 ⟨b5, rfl, hb5, _, hn5⟩
  have HB5 := hideN (belNext HB4.out hb5)
  have HT5 := hideN (HT4.out.below hb5)
  have HN5 := hideN hn5
  clear hb5 hn5 c0 c1 c2 c3
  go_wp2_with fail
  obtain ⟨W6, hW6⟩ : ∃ W6, W6 = w5.alloc (.cells #[.int .i64 vi, .slice (some ⟨b5, 0, none⟩) n n, .int .i64 root] 29) := ⟨_, rfl⟩
  try rw [← hW6]
  have HX6 : Hid (BlkD W6 w5.heap.size (.int .i64 vi) (.slice (some ⟨b5, 0, none⟩) n n) (.int .i64 root)) := by rw [hW6]; exact BlkD.new _ _ _ _
  have hb56 : Below w5.heap.size w5 W6 := by rw [hW6]; exact belOne _ _
  have HB6 := hideN (belNext HB5.out hb56)
  have HT6 := hideN (HT5.out.below hb56)
  have HN6 := hideN (HN5.out.below hb56)
  clear hW6 hb56
  refine (implBddCount_any vi root _ n n ns W6 HN6.out H64.out HR.out).mono ?_
  rintro e w7 ⟨rfl, hb7⟩
  have HB7 := hideN (belNext HB6.out hb7)
  have HT7 := hideN (HT6.out.below hb7)
  have HX7 := hideN (HX6.out.below hb7)
  have HN7 := hideN (HN6.out.below hb7)
  clear hb7
  generalize countZ vi ns root = ok at *
  have hne : ((ok : Int) == ok) = true := by simp
  have hnn : ((ok : Int) != ok) = false := by simp
  have hnd : decide (ok = ok) = true := by simp
  have c0 := HT7.out.c0
  have c1 := HT7.out.c1
  have c2 := HT7.out.c2
  have c3 := HT7.out.lt
  have x0 := HX7.out.c0
  have x1 := HX7.out.c1
  have x2 := HX7.out.c2
  have x3 := HX7.out.lt
  go_wp2_with fail
  go_region_held3 (fun w' => w'.cell? ⟨w.heap.size, 0, none⟩ = some (.int .i64 vi) ∧ w'.cell? ⟨w.heap.size, 1, none⟩ = some (.slice ao n cap) ∧ w'.cell? ⟨w.heap.size, 2, none⟩ = some (.int .i64 root) ∧ w'.cell? ⟨w5.heap.size, 0, none⟩ = some (.int .i64 vi) ∧ w'.cell? ⟨w5.heap.size, 1, none⟩ = some (.slice (some ⟨b5, 0, none⟩) n n) ∧ w'.cell? ⟨w5.heap.size, 2, none⟩ = some (.int .i64 root))
    (first | exact ⟨by assumption, by assumption, by assumption, by assumption, by assumption, by assumption⟩ | (go_keep; done))
    (first
      | (go_simp; go_at_call 16; refine (toBdd_any vi root ao n cap ns _ (HN.out _ (by first | exact HB7.out | exact HB7.out.drew)) hbig).mono ?_; rintro e w8 ⟨b8, rfl, hbz, _, hn8⟩; have hb8 : Below w7.heap.size w7 w8 := (by first | exact hbz | exact undrew hbz); have HB8 : Hid (Below w.heap.size w w8) := belNext HB7.out hb8; have HT8 := hideN (HT7.out.below hb8); have HX8 := hideN (HX7.out.below hb8); have HN8 := hideN (HN7.out.below hb8); have HM8 := hideN hn8; have t0 := HT8.out.c0; have t1 := HT8.out.c1; have t2 := HT8.out.c2; have y0 := HX8.out.c0; have y1 := HX8.out.c1; have y2 := HX8.out.c2; clear hb8 hbz hn8)
      | (go_simp; go_at_call 18; refine (eqBdd_same vi root _ _ n _ _ ns _ HN8.out.is HM8.out.is (by have := HL.out; omega)).mono ?_; rintro e w9 ⟨rfl, hbz⟩; have HB9 : Hid (Below w.heap.size w w9) := belNext HB8.out hbz; have HT9 := hideN (HT8.out.below hbz); have HX9 := hideN (HX8.out.below hbz); have s0 := HT9.out.c0; have s1 := HT9.out.c1; have s2 := HT9.out.c2; have u0 := HX9.out.c0; have u1 := HX9.out.c1; have u2 := HX9.out.c2; clear hbz))
  all_goals go_wp2
  all_goals go_ret
  all_goals exact ⟨rfl, HB9.out⟩

set_option maxRecDepth 100000 in
theorem fnExactBddCount_lifted (os : Os) (started : os.Started) (H : Type) (enc : TypeId × Value → H) :
    ReturnsInHanded {} Try.checked os 11 .any (Rows.fnExactBddCountSpec.pre6 enc Try.prog Try.f11 Rows.fnExactBddCountRow.domain false) (Rows.fnExactBddCountSpec.post enc Try.prog Try.f11 false true false false) := by
  refine returnsInHanded_of_change (C := Try.checked) own started (by kernel_rfl) Try.func11
    (ChangeSpec.witness6 (enc := enc) (C := Try.checked) false ⟨#[], #[.agg #[.int .i64 0, .slice none 0 0, .int .i64 0]], []⟩ 8 (by kernel_rfl) (by kernel_rfl) (by kernel_rfl) (by kernel_rfl)) ?_
  intro W base args ds gs before hval0 hW hcnd _
  have hval : ∀ (j : Nat) t v, Try.f11.params[j]? = some t → args[j]? = some v → Value.okWide Try.prog W .any base t v := hval0
  have hW' := hW
  obtain ⟨p, q, hA0, hV, rfl, hfz, hnd⟩ := hW
  have hA : DataW.TrodAll enc Try.prog W 0 (fun _ => true) true Try.f11.params.toList args.toList ds p := hA0
  rw [Try.params11] at hA hval
  obtain ⟨v0, vs0, d0, ds0, p0, q0, hargs, rfl, rfl, h0, r0⟩ := trodAll_cons hA
  obtain ⟨rfl, rfl, rfl⟩ := trodAll_nil r0
  obtain rfl : args = #[v0] := by cases args; simp_all
  obtain ⟨rfl, rfl⟩ := trodVars_none hV
  have k0 := h0
  have lt0 : ∀ x ∈ p0, x.block < W.heap.size := by obtain ⟨m, hm⟩ := k0; exact DataW.trod_lt m _ _ _ hm
  obtain ⟨vi, root, ao, n, cap, ns, rfl, hN, hml, h64, _, hr⟩ := bdd_of_trod (hval 0 24 v0 rfl rfl) h0
  clear hA0 hval0
  refine (fnExactBddCount_walk vi root ao n cap ns W hN hml h64 hr).mono fun e W' ⟨he, bel⟩ => ?_
  subst he
  exact ⟨_, rfl, _, _, _, [], _, [], hW', trodAll_mk1 (shut_bool Try.underlying4 _), (trodAll_cons_mk (Below.trod laidOutN (by kernel_rfl) (of_decide_eq_true (by kernel_rfl)) k0 bel lt0) trodAll_mk0), rfl, bel.frame _, fun h => by cases h⟩

theorem fnExactBddCount_holds : Rows.FnExactBddCountSaid :=
  OpenClaim.holds_of_wide 11 Try.f11 rfl rfl rfl rfl rfl rfl rfl ⟨rfl, rfl, rfl, rfl, rfl⟩ rfl rfl rfl rfl rfl (by kernel_rfl) Try.func11 (by kernel_rfl)
    (of_decide_eq_true (by kernel_rfl)) (by unfold Func.isWrapper; first | (rw [if_pos (by decide +kernel)]; kernel_rfl) | (rw [if_neg (by decide +kernel)]; exact ⟨rfl, rfl⟩))
    (fun os started H enc _ => fnExactBddCount_lifted os started H enc)

end Go.Proofs.Ytlbmlhncioampaa
