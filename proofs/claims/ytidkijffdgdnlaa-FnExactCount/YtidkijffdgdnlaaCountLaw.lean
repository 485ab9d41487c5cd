/-
  The law FnExactCount: at every argument the program's Count answers as the model's, and writes into no argument. No condition: every argument that can be read.
-/
import Derived.Test.YtidkijffdgdnlaaSz
import Derived.Test.YtidkijffdgdnlaaTo
import Derived.Test.YtidkijffdgdnlaaEq
import Derived.Test.YtidkijffdgdnlaaCountImpl
import Derived.Test.YtidkijffdgdnlaaOpen
import Derived.Deep.RegionWith
namespace Go.Proofs.Ytidkijffdgdnlaa
open Go.ChangeShapes Go.WideShapes Go.ChangeAt Go.RowKit Go.Deep Go.Joins

set_option maxHeartbeats 2000000 in
theorem fnExactCount_walk (vars : Int) (v : Value) (xss : List (List Int)) (w : World) (hv : IsRows w v xss) (hn : xss.length ≤ maxLen) (hr : ∀ xs ∈ xss, xs.length ≤ maxLen) :
    Calls Try.prog 5 #[.agg #[.int .i64 vars, v]] w fun e w' => e = .returned (.bool true) ∧ Below w.heap.size w w' := by
  have HV : Hid (∀ w', Below w.heap.size w w' → IsRows w' v xss) := fun w' h => hv.below h
  obtain ⟨ao, cap, rfl, _⟩ := hv
  have HR : Hid (∀ xs ∈ xss, xs.length ≤ maxLen) := hr
  have HL : Hid (xss.length ≤ maxLen) := hn
  have HW : Hid (∀ i, i < xss.length → (xss.getD i []).length ≤ maxLen) := fun i hi => hr _ (by rw [List.getD, List.getElem?_eq_getElem hi]; simp)
  clear hr hn
  have hb0 : Hid (Below w.heap.size w (w.alloc (.cells #[.int .i64 vars, .slice ao xss.length cap] 24))) := belOne _ _
  have ht0 : Hid (Two (w.alloc (.cells #[.int .i64 vars, .slice ao xss.length cap] 24)) w.heap.size (.int .i64 vars) (.slice ao xss.length cap)) := Two.new _ _ _ _
  by_cases hbig : xss.length + sumLen xss ≤ 1048576
  · have hz : szOf xss 1048576 = 1048576 - (xss.length + sumLen xss : Int) := by unfold szOf; rw [if_pos (by omega)]
    have HZ : Hid (szOf xss 1048576 = 1048576 - (xss.length + sumLen xss : Int)) := hz
    clear hz
    go_enter Try.func5, Try.ntmps5
    go_wp2_with fail
    refine (szCnf_any _ _ xss _ _ (HV.out _ hb0.out) HL.out HR.out (by omega) (by omega)).mono ?_
    rintro e w1 ⟨rfl, hb1⟩
    rw [HZ.out]
    have HB1 : Hid (Below w.heap.size w w1) := belNext hb0.out hb1
    have HT1 : Hid (Two w1 w.heap.size (.int .i64 vars) (.slice ao xss.length cap)) := ht0.out.below hb1
    clear hb1
    have hl1 := HT1.out.lt
    have hc10 := HT1.out.c0
    have hc11 := HT1.out.c1
    go_wp2_with fail
    refine (toCnf_any _ _ xss _ (HV.out _ HB1.out) hbig).mono ?_
    rintro e w2 ⟨rfl, hb2, hcp2⟩
    have HB2 : Hid (Below w.heap.size w w2) := belNext HB1.out hb2
    have HT2 : Hid (Two w2 w.heap.size (.int .i64 vars) (.slice ao xss.length cap)) := HT1.out.below hb2
    have HCP2 : Hid (Copy w2 (w1.heap.size + 3) xss) := hcp2
    clear hb2 hcp2 hl1 hc10 hc11
    go_wp2_with fail
    refine (specCount_any _ _ xss _ HCP2.out.isRows HL.out HW.out).mono ?_
    rintro e w3 ⟨rfl, hb3⟩
    have HB3 : Hid (Below w.heap.size w w3) := belNext HB2.out hb3
    have HT3 : Hid (Two w3 w.heap.size (.int .i64 vars) (.slice ao xss.length cap)) := HT2.out.below hb3
    clear hb3
    have hl3 := HT3.out.lt
    have hc30 := HT3.out.c0
    have hc31 := HT3.out.c1
    go_wp2_with fail
    refine (toCnf_any _ _ xss _ (HV.out _ HB3.out) hbig).mono ?_
    rintro e w4 ⟨rfl, hb4, hcp4⟩
    have HB4 : Hid (Below w.heap.size w w4) := belNext HB3.out hb4
    have HT4 : Hid (Two w4 w.heap.size (.int .i64 vars) (.slice ao xss.length cap)) := HT3.out.below hb4
    have HCP4 : Hid (Copy w4 (w3.heap.size + 3) xss) := hcp4
    clear hb4 hcp4 hl3 hc30 hc31
    go_wp2_with fail
    refine (implCount_any _ _ xss _ (HCP4.out.isRows.below (belOne _ _)) HL.out HW.out).mono ?_
    rintro e w6 ⟨rfl, hb6⟩
    have HT6 : Hid (Two w6 w.heap.size (.int .i64 vars) (.slice ao xss.length cap)) := (HT4.out.below (belOne _ _)).below hb6
    have HX6 : Hid (Two w6 w4.heap.size (.int .i64 vars) (.slice (some ⟨w3.heap.size + 3, 0, none⟩) xss.length xss.length)) := (Two.new _ _ _ _).below hb6
    have HCP6 : Hid (Copy w6 (w3.heap.size + 3) xss) := (HCP4.out.below (belOne _ _)).below hb6
    have HB6 : Hid (Below w.heap.size w w6) := belNext (belNext HB4.out (belOne _ _)) hb6
    clear hb6
    generalize cntOf vars xss = ok at *
    have hl6 := HT6.out.lt
    have hc60 := HT6.out.c0
    have hc61 := HT6.out.c1
    have hx6 := HX6.out.lt
    have hx60 := HX6.out.c0
    have hx61 := HX6.out.c1
    go_wp2_with fail
    go_region_with (first
      | (go_at_call 8; refine (toCnf_any _ _ xss _ (HV.out _ HB6.out.drew) hbig).mono ?_; rintro e w7 ⟨rfl, hb7', hcp7⟩; have hb7 := undrew hb7'; have HB7 : Hid (Below w.heap.size w w7) := belNext HB6.out hb7; have HCP7 : Hid (Copy w7 (w6.heap.size + 3) xss) := hcp7; have HCQ7 : Hid (Copy w7 (w3.heap.size + 3) xss) := HCP6.out.below hb7; have hx7 := (HX6.out.below hb7).lt; have hx70 := (HX6.out.below hb7).c0; have hx71 := (HX6.out.below hb7).c1; clear hb7 hb7' hcp7)
      | (go_at_call 10; refine (eqCnf_same _ _ _ xss _ HCQ7.out.isRows HCP7.out.isRows hbig).mono ?_; rintro e w8 ⟨rfl, hb8⟩; have HB8 : Hid (Below w.heap.size w w8) := belNext HB7.out hb8; clear hb8))
    all_goals go_wp2
    all_goals go_ret
    all_goals exact ⟨rfl, HB8.out⟩
  · have hz : szOf xss 1048576 = -1 := by unfold szOf; rw [if_neg (by omega)]
    have HZ : Hid (szOf xss 1048576 = -1) := hz
    clear hz
    go_enter Try.func5, Try.ntmps5
    go_wp2_with fail
    refine (szCnf_any _ _ xss _ _ (HV.out _ hb0.out) HL.out HR.out (by omega) (by omega)).mono ?_
    rintro e w1 ⟨rfl, hb1⟩
    rw [HZ.out]
    have HB1 : Hid (Below w.heap.size w w1) := belNext hb0.out hb1
    clear hb1
    go_wp2
    go_ret
    exact ⟨rfl, HB1.out⟩

set_option maxRecDepth 100000 in
theorem fnExactCount_lifted (os : Os) (started : os.Started) (H : Type) (enc : TypeId × Value → H) :
    ReturnsInHanded {} Try.checked os 5 .any (Rows.fnExactCountSpec.pre6 enc Try.prog Try.f5 Rows.fnExactCountRow.domain false) (Rows.fnExactCountSpec.post enc Try.prog Try.f5 false true false false) := by
  refine returnsInHanded_of_change (C := Try.checked) own started (by kernel_rfl) Try.func5
    (ChangeSpec.witness6 (enc := enc) (C := Try.checked) false ⟨#[], #[.agg #[.int .i64 0, .slice none 0 0]], []⟩ 8 (by kernel_rfl) (by kernel_rfl) (by kernel_rfl) (by kernel_rfl)) ?_
  intro W base args ds gs before hval0 hW hcnd _
  have hval : ∀ (j : Nat) t v, Try.f5.params[j]? = some t → args[j]? = some v → Value.okWide Try.prog W .any base t v := hval0
  have hW' := hW
  obtain ⟨p, q, hA0, hV, rfl, hfz, hnd⟩ := hW
  have hA : DataW.TrodAll enc Try.prog W 0 (fun _ => true) true Try.f5.params.toList args.toList ds p := hA0
  rw [Try.params5] at hA hval
  obtain ⟨v0, vs0, d0, ds0, p0, q0, hargs, rfl, rfl, h0, r0⟩ := trodAll_cons hA
  obtain ⟨rfl, rfl, rfl⟩ := trodAll_nil r0
  obtain rfl : args = #[v0] := by cases args; simp_all
  obtain ⟨rfl, rfl⟩ := trodVars_none hV
  have k0 := h0
  have lt0 : ∀ x ∈ p0, x.block < W.heap.size := by obtain ⟨m, hm⟩ := k0; exact DataW.trod_lt m _ _ _ hm
  obtain ⟨c0, c1, y0, y1, m, rfl, hd, _, hy0, hy1⟩ := open_agg2 Try.underlying24 (by kernel_rfl) cells_cnf (hval 0 24 v0 rfl rfl) h0
  obtain ⟨vars, e0, _, _⟩ := DataW.trod_int Try.underlying3 hy0
  simp at e0
  subst e0
  obtain ⟨xss, hrows, hl, hr⟩ := isRows_of_trod hy1
  clear hA0 hval0
  refine (fnExactCount_walk vars c1 xss W hrows hl hr).mono fun e W' ⟨he, bel⟩ => ?_
  subst he
  exact ⟨_, rfl, _, _, _, [], _, [], hW', trodAll_mk1 (shut_bool Try.underlying4 _), (trodAll_cons_mk (Below.trod laidOut (by kernel_rfl) (of_decide_eq_true (by kernel_rfl)) k0 bel lt0) trodAll_mk0), rfl, bel.frame _, fun h => by cases h⟩

theorem fnExactCount_holds : Rows.FnExactCountSaid :=
  OpenClaim.holds_of_wide 5 Try.f5 rfl rfl rfl rfl rfl rfl rfl ⟨rfl, rfl, rfl, rfl, rfl⟩ rfl rfl rfl rfl rfl (by kernel_rfl) Try.func5 (by kernel_rfl)
    (of_decide_eq_true (by kernel_rfl)) (by unfold Func.isWrapper; first | (rw [if_pos (by decide +kernel)]; kernel_rfl) | (rw [if_neg (by decide +kernel)]; exact ⟨rfl, rfl⟩))
    (fun os started H enc _ => fnExactCount_lifted os started H enc)

end Go.Proofs.Ytidkijffdgdnlaa
