/-
  The law FnExactAigOk: at every circuit the program's AigOk answers as the model's, and writes into no argument. No condition: every argument that can be read.
-/
import Derived.Test.YtnifffbeojgfeaaAigOpen
import Derived.Deep.RegionHeld3
namespace Go.Proofs.Ytnifffbeojgfeaa
open Go.ChangeShapes Go.WideShapes Go.ChangeAt Go.RowKit Go.Deep Go.Joins
set_option linter.unusedVariables false

set_option maxRecDepth 100000 in
set_option maxHeartbeats 4000000 in
theorem fnExactAigOk_walk (inp : Int) (al aa ab : Option Addr) (cl ca cb : Nat) (ls : List (Int × Bool)) (xs : List (Int × Int)) (bs : List Int) (w : World) (hC : IsCir w al aa ab cl ca cb ls xs bs)
    (hl64 : ∀ p ∈ ls, I64 p.1) (hx64 : ∀ p ∈ xs, I64 p.1 ∧ I64 p.2) (hb64 : ∀ x ∈ bs, I64 x) :
    Calls Try.prog 3 #[.agg #[.int .i64 inp, .slice al ls.length cl, .slice aa xs.length ca, .slice ab bs.length cb]] w fun e w' => e = .returned (.bool true) ∧ Below w.heap.size w w' := by
  have HE : Hid (okC inp ls xs bs = okS inp ls xs bs) := okC_eq hl64 hx64 hb64
  clear hl64 hx64 hb64
  have HC : Hid (∀ w', Below w.heap.size w w' → IsCir w' al aa ab cl ca cb ls xs bs) := fun w' h => hC.below h
  have hsz := szAig_any inp al aa ab ls.length cl xs.length ca bs.length cb (w.alloc (.cells #[.int .i64 inp, .slice al ls.length cl, .slice aa xs.length ca, .slice ab bs.length cb] 26)) hC.lenL hC.lenA hC.lenB
  have HSZ : Hid (Calls Try.prog 7 #[.agg #[.int .i64 inp, .slice al ls.length cl, .slice aa xs.length ca, .slice ab bs.length cb], .int .i64 1048576] (w.alloc (.cells #[.int .i64 inp, .slice al ls.length cl, .slice aa xs.length ca, .slice ab bs.length cb] 26)) fun e w' => e = .returned (.int .i64 (szC ls.length xs.length bs.length)) ∧ Below (w.alloc (.cells #[.int .i64 inp, .slice al ls.length cl, .slice aa xs.length ca, .slice ab bs.length cb] 26)).heap.size (w.alloc (.cells #[.int .i64 inp, .slice al ls.length cl, .slice aa xs.length ca, .slice ab bs.length cb] 26)) w') := hsz
  clear hC hsz
  have HB0 : Hid (Below w.heap.size w (w.alloc (.cells #[.int .i64 inp, .slice al ls.length cl, .slice aa xs.length ca, .slice ab bs.length cb] 26))) := belOne _ _
  have HT0 : Hid (Four (w.alloc (.cells #[.int .i64 inp, .slice al ls.length cl, .slice aa xs.length ca, .slice ab bs.length cb] 26)) w.heap.size (.int .i64 inp) (.slice al ls.length cl) (.slice aa xs.length ca) (.slice ab bs.length cb)) := Four.new _ _ _ _ _ _
  by_cases hbig : ls.length + xs.length + bs.length ≤ 1048576
  · have hl : ls.length ≤ 1048576 := by omega
    have ha : xs.length ≤ 1048576 := by omega
    have hb : bs.length ≤ 1048576 := by omega
    have HZ : Hid (szC ls.length xs.length bs.length = 1048576 - ((ls.length : Int) + xs.length + bs.length)) := by show szC ls.length xs.length bs.length = _; unfold szC; rw [if_pos hbig]
    go_enter Try.func3, Try.ntmps3
    go_wp2_with fail
    refine HSZ.out.mono ?_
    rintro e w1 ⟨rfl, hb1⟩
    rw [HZ.out]
    have HB1 : Hid (Below w.heap.size w w1) := belNext HB0.out hb1
    have HT1 : Hid (Four w1 w.heap.size (.int .i64 inp) (.slice al ls.length cl) (.slice aa xs.length ca) (.slice ab bs.length cb)) := HT0.out.below hb1
    clear hb1
    have c0 := HT1.out.c0
    have c1 := HT1.out.c1
    have c2 := HT1.out.c2
    have c3 := HT1.out.c3
    have c4 := HT1.out.lt
    go_wp2_with fail
    refine (toAig_any inp al aa ab cl ca cb ls xs bs _ (HC.out _ HB1.out) hl ha hb).mono ?_
    rintro e w2 ⟨bl2, ba2, bb2, rfl, hb2, _, _, _, hc2⟩
    have HB2 : Hid (Below w.heap.size w w2) := belNext HB1.out hb2
    have HT2 : Hid (Four w2 w.heap.size (.int .i64 inp) (.slice al ls.length cl) (.slice aa xs.length ca) (.slice ab bs.length cb)) := HT1.out.below hb2
    have HD2 : Hid (CirAt w2 bl2 ba2 bb2 ls xs bs) := hc2
    clear hb2 hc2 c0 c1 c2 c3 c4
    go_wp2_with fail
    refine (specAigOk_any inp _ _ _ _ _ _ ls xs bs _ (HD2.out.isCir hl ha hb)).mono ?_
    rintro e w3 ⟨rfl, hb3⟩
    rw [← HE.out]
    have HB3 : Hid (Below w.heap.size w w3) := belNext HB2.out hb3
    have HT3 : Hid (Four w3 w.heap.size (.int .i64 inp) (.slice al ls.length cl) (.slice aa xs.length ca) (.slice ab bs.length cb)) := HT2.out.below hb3
    clear hb3
    have c0 := HT3.out.c0
    have c1 := HT3.out.c1
    have c2 := HT3.out.c2
    have c3 := HT3.out.c3
    have c4 := HT3.out.lt
    go_wp2_with fail
    refine (toAig_any inp al aa ab cl ca cb ls xs bs _ (HC.out _ HB3.out) hl ha hb).mono ?_
    rintro e w4 ⟨bl4, ba4, bb4, rfl, hb4, _, _, _, hc4⟩
    have HB4 : Hid (Below w.heap.size w w4) := belNext HB3.out hb4
    have HT4 : Hid (Four w4 w.heap.size (.int .i64 inp) (.slice al ls.length cl) (.slice aa xs.length ca) (.slice ab bs.length cb)) := HT3.out.below hb4
    have HD4 : Hid (CirAt w4 bl4 ba4 bb4 ls xs bs) := hc4
    clear hb4 hc4 c0 c1 c2 c3 c4
    go_wp2_with fail
    refine (implAigOk_any inp _ _ _ _ _ _ ls xs bs _ ((HD4.out.below (belOne _ _)).isCir hl ha hb)).mono ?_
    rintro e w5 ⟨rfl, hb5⟩
    have HB5 : Hid (Below w.heap.size w w5) := belNext (belNext HB4.out (belOne _ _)) hb5
    have HT5 : Hid (Four w5 w.heap.size (.int .i64 inp) (.slice al ls.length cl) (.slice aa xs.length ca) (.slice ab bs.length cb)) := (HT4.out.below (belOne _ _)).below hb5
    have HX5 : Hid (Four w5 w4.heap.size (.int .i64 inp) (.slice (some ⟨bl4, 0, none⟩) ls.length ls.length) (.slice (some ⟨ba4, 0, none⟩) xs.length xs.length) (.slice (some ⟨bb4, 0, none⟩) bs.length bs.length)) := (Four.new _ _ _ _ _ _).below hb5
    have HD5 : Hid (CirAt w5 bl4 ba4 bb4 ls xs bs) := (HD4.out.below (belOne _ _)).below hb5
    clear hb5
    generalize okC inp ls xs bs = ok at *
    have c0 := HT5.out.c0
    have c1 := HT5.out.c1
    have c2 := HT5.out.c2
    have c3 := HT5.out.c3
    have c4 := HT5.out.lt
    have x0 := HX5.out.c0
    have x1 := HX5.out.c1
    have x2 := HX5.out.c2
    have x3 := HX5.out.c3
    have x4 := HX5.out.lt
    go_wp2_with fail
    go_region_held3 (fun w' => w'.cell? ⟨w.heap.size, 0, none⟩ = some (.int .i64 inp) ∧ w'.cell? ⟨w.heap.size, 1, none⟩ = some (.slice al ls.length cl) ∧ w'.cell? ⟨w.heap.size, 2, none⟩ = some (.slice aa xs.length ca) ∧ w'.cell? ⟨w.heap.size, 3, none⟩ = some (.slice ab bs.length cb) ∧ w'.cell? ⟨w4.heap.size, 0, none⟩ = some (.int .i64 inp) ∧ w'.cell? ⟨w4.heap.size, 1, none⟩ = some (.slice (some ⟨bl4, 0, none⟩) ls.length ls.length) ∧ w'.cell? ⟨w4.heap.size, 2, none⟩ = some (.slice (some ⟨ba4, 0, none⟩) xs.length xs.length) ∧ w'.cell? ⟨w4.heap.size, 3, none⟩ = some (.slice (some ⟨bb4, 0, none⟩) bs.length bs.length))
      (first | exact ⟨by assumption, by assumption, by assumption, by assumption, by assumption, by assumption, by assumption, by assumption⟩ | (go_keep; done))
      (first
        | (go_simp; go_at_call 9; refine (toAig_any inp al aa ab cl ca cb ls xs bs _ (HC.out _ (by first | exact HB5.out | exact HB5.out.drew)) hl ha hb).mono ?_; rintro e w7 ⟨bl7, ba7, bb7, rfl, hbz, _, _, _, hc7⟩; have hb7 : Below w5.heap.size w5 w7 := (by first | exact hbz | exact undrew hbz); have HB7 : Hid (Below w.heap.size w w7) := belNext HB5.out hb7; have HT7 : Hid (Four w7 w.heap.size (.int .i64 inp) (.slice al ls.length cl) (.slice aa xs.length ca) (.slice ab bs.length cb)) := HT5.out.below hb7; have HX7 : Hid (Four w7 w4.heap.size (.int .i64 inp) (.slice (some ⟨bl4, 0, none⟩) ls.length ls.length) (.slice (some ⟨ba4, 0, none⟩) xs.length xs.length) (.slice (some ⟨bb4, 0, none⟩) bs.length bs.length)) := HX5.out.below hb7; have HD7 : Hid (CirAt w7 bl4 ba4 bb4 ls xs bs) := HD5.out.below hb7; have HE7 : Hid (CirAt w7 bl7 ba7 bb7 ls xs bs) := hc7; have t0 := HT7.out.c0; have t1 := HT7.out.c1; have t2 := HT7.out.c2; have t3 := HT7.out.c3; have y0 := HX7.out.c0; have y1 := HX7.out.c1; have y2 := HX7.out.c2; have y3 := HX7.out.c3; clear hb7 hbz hc7)
        | (go_simp; go_at_call 11; refine (eqAig_same inp _ _ _ _ _ _ _ _ _ _ _ _ ls xs bs _ (HD7.out.isCir hl ha hb) (HE7.out.isCir hl ha hb) hl ha hb).mono ?_; rintro e w8 ⟨rfl, hbz⟩; have HB8 : Hid (Below w.heap.size w w8) := belNext HB7.out hbz; have HT8 : Hid (Four w8 w.heap.size (.int .i64 inp) (.slice al ls.length cl) (.slice aa xs.length ca) (.slice ab bs.length cb)) := HT7.out.below hbz; have HX8 : Hid (Four w8 w4.heap.size (.int .i64 inp) (.slice (some ⟨bl4, 0, none⟩) ls.length ls.length) (.slice (some ⟨ba4, 0, none⟩) xs.length xs.length) (.slice (some ⟨bb4, 0, none⟩) bs.length bs.length)) := HX7.out.below hbz; have s0 := HT8.out.c0; have s1 := HT8.out.c1; have s2 := HT8.out.c2; have s3 := HT8.out.c3; have u0 := HX8.out.c0; have u1 := HX8.out.c1; have u2 := HX8.out.c2; have u3 := HX8.out.c3; clear hbz))
    all_goals go_wp2
    all_goals go_ret
    all_goals exact ⟨rfl, HB8.out⟩
  · have HZ : Hid (szC ls.length xs.length bs.length = -1) := by show szC ls.length xs.length bs.length = _; unfold szC; rw [if_neg hbig]
    go_enter Try.func3, Try.ntmps3
    go_wp2_with fail
    refine HSZ.out.mono ?_
    rintro e w1 ⟨rfl, hb1⟩
    rw [HZ.out]
    have HB1 : Hid (Below w.heap.size w w1) := belNext HB0.out hb1
    clear hb1
    go_wp2
    go_ret
    exact ⟨rfl, HB1.out⟩

set_option maxRecDepth 100000 in
theorem fnExactAigOk_lifted (os : Os) (started : os.Started) (H : Type) (enc : TypeId × Value → H) :
    ReturnsInHanded {} Try.checked os 3 .any (Rows.fnExactAigOkSpec.pre6 enc Try.prog Try.f3 Rows.fnExactAigOkRow.domain false) (Rows.fnExactAigOkSpec.post enc Try.prog Try.f3 false true false false) := by
  refine returnsInHanded_of_change (C := Try.checked) own started (by kernel_rfl) Try.func3
    (ChangeSpec.witness6 (enc := enc) (C := Try.checked) false ⟨#[], #[.agg #[.int .i64 0, .slice none 0 0, .slice none 0 0, .slice none 0 0]], []⟩ 8 (by kernel_rfl) (by kernel_rfl) (by kernel_rfl) (by kernel_rfl)) ?_
  intro W base args ds gs before hval0 hW hcnd _
  have hval : ∀ (j : Nat) t v, Try.f3.params[j]? = some t → args[j]? = some v → Value.okWide Try.prog W .any base t v := hval0
  have hW' := hW
  obtain ⟨p, q, hA0, hV, rfl, hfz, hnd⟩ := hW
  have hA : DataW.TrodAll enc Try.prog W 0 (fun _ => true) true Try.f3.params.toList args.toList ds p := hA0
  rw [Try.params3] at hA hval
  obtain ⟨v0, vs0, d0, ds0, p0, q0, hargs, rfl, rfl, h0, r0⟩ := trodAll_cons hA
  obtain ⟨rfl, rfl, rfl⟩ := trodAll_nil r0
  obtain rfl : args = #[v0] := by cases args; simp_all
  obtain ⟨rfl, rfl⟩ := trodVars_none hV
  have k0 := h0
  have lt0 : ∀ x ∈ p0, x.block < W.heap.size := by obtain ⟨m, hm⟩ := k0; exact DataW.trod_lt m _ _ _ hm
  obtain ⟨inp, al, aa, ab, cl, ca, cb, ls, xs, bs, rfl, hC, h1, h2, h3, _⟩ := aig_of_trod (hval 0 26 v0 rfl rfl) h0
  clear hA0 hval0
  refine (fnExactAigOk_walk inp al aa ab cl ca cb ls xs bs W hC h1 h2 h3).mono fun e W' ⟨he, bel⟩ => ?_
  subst he
  exact ⟨_, rfl, _, _, _, [], _, [], hW', trodAll_mk1 (shut_bool Try.underlying4 _), (trodAll_cons_mk (Below.trod laidOut (by kernel_rfl) (of_decide_eq_true (by kernel_rfl)) k0 bel lt0) trodAll_mk0), rfl, bel.frame _, fun h => by cases h⟩

theorem fnExactAigOk_holds : Rows.FnExactAigOkSaid :=
  OpenClaim.holds_of_wide 3 Try.f3 rfl rfl rfl rfl rfl rfl rfl ⟨rfl, rfl, rfl, rfl, rfl⟩ rfl rfl rfl rfl rfl (by kernel_rfl) Try.func3 (by kernel_rfl)
    (of_decide_eq_true (by kernel_rfl)) (by unfold Func.isWrapper; first | (rw [if_pos (by decide +kernel)]; kernel_rfl) | (rw [if_neg (by decide +kernel)]; exact ⟨rfl, rfl⟩))
    (fun os started H enc _ => fnExactAigOk_lifted os started H enc)

end Go.Proofs.Ytnifffbeojgfeaa
