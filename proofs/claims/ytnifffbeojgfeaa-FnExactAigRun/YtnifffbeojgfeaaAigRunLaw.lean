/-
  The law FnExactAigRun: at every argument the program's AigRun answers as the model's and writes into no argument. No condition: every argument that can be read.
-/
import Derived.Test.YtnifffbeojgfeaaAigQ
import Derived.Test.YtnifffbeojgfeaaAigStepLaw
namespace Go.Proofs.Ytnifffbeojgfeaa
open Go.ChangeShapes Go.WideShapes Go.ChangeAt Go.RowKit Go.Deep Go.Joins
set_option linter.unusedVariables false

/-- What stands while the law goes on. -/
structure Rst (w V : World) (bX bl ba bb b1 : Nat) (c0 c1 c2 c3 : Value) (inp : Int) (ls : List (Int × Bool)) (xs : List (Int × Int)) (bs : List Int) (rows : List (List Bool)) : Prop where
  fa : Four V w.heap.size c0 c1 c2 c3
  fx : Four V bX (.int .i64 inp) (.slice (some ⟨bl, 0, none⟩) ls.length ls.length) (.slice (some ⟨ba, 0, none⟩) xs.length xs.length) (.slice (some ⟨bb, 0, none⟩) bs.length bs.length)
  cx : CirAt V bl ba bb ls xs bs
  rx : CopyB V b1 rows
  be : Below w.heap.size w V
theorem Rst.below {w V V' : World} {bX bl ba bb b1 : Nat} {c0 c1 c2 c3 : Value} {inp : Int} {ls : List (Int × Bool)} {xs : List (Int × Int)} {bs : List Int} {rows : List (List Bool)} (h : Rst w V bX bl ba bb b1 c0 c1 c2 c3 inp ls xs bs rows) (hb : Below V.heap.size V V') : Rst w V' bX bl ba bb b1 c0 c1 c2 c3 inp ls xs bs rows :=
  ⟨h.fa.below hb, h.fx.below hb, h.cx.below hb, h.rx.below hb, belNext h.be hb⟩

set_option maxRecDepth 100000 in
set_option maxHeartbeats 8000000 in
theorem fnExactAigRun_walk (inp : Int) (al aa ab : Option Addr) (cl ca cb : Nat) (ls : List (Int × Bool)) (xs : List (Int × Int)) (bs : List Int) (ar : Option Addr) (cr : Nat) (rows : List (List Bool)) (w : World) (hC : IsCir w al aa ab cl ca cb ls xs bs)
    (hR : IsBRows w (.slice ar rows.length cr) rows) (hl64 : ∀ p ∈ ls, I64 p.1) (hx64 : ∀ p ∈ xs, I64 p.1 ∧ I64 p.2) (hb64 : ∀ x ∈ bs, I64 x) (hm1 : rows.length ≤ maxLen) (hm2 : ∀ r ∈ rows, r.length ≤ maxLen) :
    Calls Try.prog 6 #[.agg #[.int .i64 inp, .slice al ls.length cl, .slice aa xs.length ca, .slice ab bs.length cb], .slice ar rows.length cr] w fun e w' => e = .returned (.bool true) ∧ Below w.heap.size w w' := by
  have HB0 : Hid (Below w.heap.size w (w.alloc (.cells #[.int .i64 inp, .slice al ls.length cl, .slice aa xs.length ca, .slice ab bs.length cb] 26))) := belOne _ _
  have HC : Hid (∀ w', Below w.heap.size w w' → IsCir w' al aa ab cl ca cb ls xs bs) := fun w' h => hC.below h
  have HR : Hid (∀ w', Below w.heap.size w w' → IsBRows w' (.slice ar rows.length cr) rows) := fun w' h => hR.below h
  have HSZ : Hid (Calls Try.prog 7 #[.agg #[.int .i64 inp, .slice al ls.length cl, .slice aa xs.length ca, .slice ab bs.length cb], .int .i64 1048576] (w.alloc (.cells #[.int .i64 inp, .slice al ls.length cl, .slice aa xs.length ca, .slice ab bs.length cb] 26)) fun e w' => e = .returned (.int .i64 (szC ls.length xs.length bs.length)) ∧ Below (w.alloc (.cells #[.int .i64 inp, .slice al ls.length cl, .slice aa xs.length ca, .slice ab bs.length cb] 26)).heap.size (w.alloc (.cells #[.int .i64 inp, .slice al ls.length cl, .slice aa xs.length ca, .slice ab bs.length cb] 26)) w') := szAig_any inp al aa ab ls.length cl xs.length ca bs.length cb _ hC.lenL hC.lenA hC.lenB
  have HT0 : Hid (Four (w.alloc (.cells #[.int .i64 inp, .slice al ls.length cl, .slice aa xs.length ca, .slice ab bs.length cb] 26)) w.heap.size (.int .i64 inp) (.slice al ls.length cl) (.slice aa xs.length ca) (.slice ab bs.length cb)) := Four.new _ _ _ _ _ _
  have HL64 : Hid (∀ p ∈ ls, I64 p.1) := hl64
  have HX64 : Hid (∀ p ∈ xs, I64 p.1 ∧ I64 p.2) := hx64
  have HB64 : Hid (∀ x ∈ bs, I64 x) := hb64
  have HM1 : Hid (rows.length ≤ maxLen) := hm1
  have HM2 : Hid (∀ r ∈ rows, r.length ≤ maxLen) := hm2
  clear hC hR hl64 hx64 hb64 hm1 hm2
  by_cases hbig : ls.length + xs.length + bs.length ≤ 1048576
  case neg =>
    have HZ : Hid (szC ls.length xs.length bs.length = -1) := by show szC ls.length xs.length bs.length = _; unfold szC; rw [if_neg hbig]
    go_enter Try.func6, Try.ntmps6
    go_wp2_with fail
    refine HSZ.out.mono ?_
    rintro e w1 ⟨rfl, hb1⟩
    rw [HZ.out]
    have HB1 : Hid (Below w.heap.size w w1) := belNext HB0.out hb1
    clear hb1
    go_wp2
    go_ret
    exact ⟨rfl, HB1.out⟩
  have hl : ls.length ≤ 1048576 := by omega
  have ha : xs.length ≤ 1048576 := by omega
  have hb : bs.length ≤ 1048576 := by omega
  obtain ⟨lf, hlf⟩ : ∃ lf : Int, 1048576 - ((ls.length : Int) + xs.length + bs.length) = lf := ⟨_, rfl⟩
  have HZ : Hid (szC ls.length xs.length bs.length = lf) := by show szC ls.length xs.length bs.length = _; unfold szC; rw [if_pos hbig]; exact hlf
  have hf0 : 0 ≤ lf := by omega
  have hf1 : lf ≤ 1048576 := by omega
  have df : decide (lf < 0) = false := by simp; omega
  clear hlf
  by_cases hfit : (rows.length + sumB rows : Int) ≤ lf
  case neg =>
    have HZ2 : Hid (szB rows lf = -1) := by show szB rows lf = -1; unfold szB; rw [if_neg hfit]
    clear hfit
    go_enter Try.func6, Try.ntmps6
    go_wp2_with fail
    refine HSZ.out.mono ?_
    rintro e w1 ⟨rfl, hb1⟩
    rw [HZ.out]
    have HB1 : Hid (Below w.heap.size w w1) := belNext HB0.out hb1
    clear hb1
    go_wp2_with fail
    refine (szBoolSS_any _ rows lf _ (HR.out _ HB1.out) HM1.out HM2.out hf0 hf1).mono ?_
    rintro e w' ⟨rfl, hw'⟩
    subst hw'
    rw [HZ2.out]
    go_wp2
    go_ret
    exact ⟨rfl, HB1.out⟩
  have hr1 : rows.length + sumB rows ≤ 1048576 := by omega
  obtain ⟨l2, hl2⟩ : ∃ l2 : Int, szB rows lf = l2 := ⟨_, rfl⟩
  have HZ2 : Hid (szB rows lf = l2) := hl2
  have d2 : decide (l2 < 0) = false := by
    rw [← hl2]; unfold szB; rw [if_pos hfit]; simp; omega
  clear hl2 hfit
  obtain ⟨rn, hrn⟩ : ∃ r, runOf inp ls xs bs rows = r := ⟨_, rfl⟩
  have HRN : Hid (runOf inp ls xs bs rows = rn) := hrn
  clear hrn
  go_enter Try.func6, Try.ntmps6
  go_wp2_with fail
  refine HSZ.out.mono ?_
  rintro e w1 ⟨rfl, hb1⟩
  rw [HZ.out]
  have HB1 : Hid (Below w.heap.size w w1) := belNext HB0.out hb1
  have HT1 : Hid (Four w1 w.heap.size (.int .i64 inp) (.slice al ls.length cl) (.slice aa xs.length ca) (.slice ab bs.length cb)) := HT0.out.below hb1
  clear hb1
  go_wp2_with fail
  refine (szBoolSS_any _ rows lf _ (HR.out _ HB1.out) HM1.out HM2.out hf0 hf1).mono ?_
  rintro e w' ⟨rfl, hw'⟩
  subst hw'
  rw [HZ2.out]
  have c0 := HT1.out.c0
  have c1 := HT1.out.c1
  have c2 := HT1.out.c2
  have c3 := HT1.out.c3
  have c4 := HT1.out.lt
  go_wp2_with fail
  refine (toAig_any inp al aa ab cl ca cb ls xs bs _ (HC.out _ HB1.out) hl ha hb).mono ?_
  rintro e w2 ⟨bl2, ba2, bb2, rfl, hb2, hy1, hy2, hy3, hc2⟩
  have HB2 : Hid (Below w.heap.size w w2) := belNext HB1.out hb2
  have HT2 : Hid (Four w2 w.heap.size (.int .i64 inp) (.slice al ls.length cl) (.slice aa xs.length ca) (.slice ab bs.length cb)) := HT1.out.below hb2
  have HD2 : Hid (CirAt w2 bl2 ba2 bb2 ls xs bs) := hc2
  clear hb2 hc2 hy1 hy2 hy3 c0 c1 c2 c3 c4
  go_wp2_with fail
  refine (toBoolSS_any _ rows _ (HR.out _ HB2.out) hr1).mono ?_
  rintro e w3 ⟨rfl, hb3, hz3, hr3⟩
  have HB3 : Hid (Below w.heap.size w w3) := belNext HB2.out hb3
  have HT3 : Hid (Four w3 w.heap.size (.int .i64 inp) (.slice al ls.length cl) (.slice aa xs.length ca) (.slice ab bs.length cb)) := HT2.out.below hb3
  have HD3 : Hid (CirAt w3 bl2 ba2 bb2 ls xs bs) := HD2.out.below hb3
  have HP3 : Hid (CopyB w3 w2.heap.size rows) := hr3
  clear hb3 hr3 hz3
  go_wp2_with fail
  refine (specAigRun_any inp _ _ _ _ _ _ ls xs bs _ _ rows _ (HD3.out.isCir hl ha hb) HP3.out.isRows HL64.out HX64.out HB64.out hr1).mono ?_
  rintro e w5 ⟨rfl, hb5⟩
  rw [HRN.out]
  have HB5 : Hid (Below w.heap.size w w5) := belNext HB3.out hb5
  have HT5 : Hid (Four w5 w.heap.size (.int .i64 inp) (.slice al ls.length cl) (.slice aa xs.length ca) (.slice ab bs.length cb)) := HT3.out.below hb5
  clear hb5
  have c0 := HT5.out.c0
  have c1 := HT5.out.c1
  have c2 := HT5.out.c2
  have c3 := HT5.out.c3
  have c4 := HT5.out.lt
  go_wp2_with fail
  refine (toAig_any inp al aa ab cl ca cb ls xs bs _ (HC.out _ HB5.out) hl ha hb).mono ?_
  rintro e w6 ⟨bl6, ba6, bb6, rfl, hb6, hy1, hy2, hy3, hc6⟩
  have HB6 : Hid (Below w.heap.size w w6) := belNext HB5.out hb6
  have HT6 : Hid (Four w6 w.heap.size (.int .i64 inp) (.slice al ls.length cl) (.slice aa xs.length ca) (.slice ab bs.length cb)) := HT5.out.below hb6
  have HD6 : Hid (CirAt w6 bl6 ba6 bb6 ls xs bs) := hc6
  clear hb6 hc6 hy1 hy2 hy3 c0 c1 c2 c3 c4
  have HX6 : Hid (Four (w6.alloc (.cells #[.int .i64 inp, .slice (some ⟨bl6, 0, none⟩) ls.length ls.length, .slice (some ⟨ba6, 0, none⟩) xs.length xs.length, .slice (some ⟨bb6, 0, none⟩) bs.length bs.length] 32)) w6.heap.size (.int .i64 inp) (.slice (some ⟨bl6, 0, none⟩) ls.length ls.length) (.slice (some ⟨ba6, 0, none⟩) xs.length xs.length) (.slice (some ⟨bb6, 0, none⟩) bs.length bs.length)) := Four.new _ _ _ _ _ _
  have HB6a : Hid (Below w6.heap.size w6 (w6.alloc (.cells #[.int .i64 inp, .slice (some ⟨bl6, 0, none⟩) ls.length ls.length, .slice (some ⟨ba6, 0, none⟩) xs.length xs.length, .slice (some ⟨bb6, 0, none⟩) bs.length bs.length] 32))) := belOne _ _
  go_wp2_with fail
  refine (toBoolSS_any _ rows _ (HR.out _ (belNext HB6.out HB6a.out)) hr1).mono ?_
  rintro e w7 ⟨rfl, hb7, hz7, hr7⟩
  simp only [World.size_alloc] at hz7 hr7 ⊢
  have hb7' := belNext HB6a.out hb7
  have L7 : Hid (Rst w w7 w6.heap.size bl6 ba6 bb6 (w6.heap.size + 1) (.int .i64 inp) (.slice al ls.length cl) (.slice aa xs.length ca) (.slice ab bs.length cb) inp ls xs bs rows) := ⟨HT6.out.below hb7', HX6.out.below hb7, HD6.out.below hb7', hr7, belNext HB6.out hb7'⟩
  clear hb7 hb7' hr7 hz7
  have c0 := L7.out.fx.c0
  have c1 := L7.out.fx.c1
  have c2 := L7.out.fx.c2
  have c3 := L7.out.fx.c3
  have c4 := L7.out.fx.lt
  go_wp2_with fail
  refine (implAigRun_any inp _ _ _ _ _ _ ls xs bs _ _ rows _ (L7.out.cx.isCir hl ha hb) L7.out.rx.isRows HL64.out HX64.out HB64.out hr1).mono ?_
  rintro e w9 ⟨rfl, hb9⟩
  rw [HRN.out]
  have L9 : Hid (Rst w w9 w6.heap.size bl6 ba6 bb6 (w6.heap.size + 1) (.int .i64 inp) (.slice al ls.length cl) (.slice aa xs.length ca) (.slice ab bs.length cb) inp ls xs bs rows) := L7.out.below hb9
  clear hb9 c0 c1 c2 c3 c4
  have c0 := L9.out.fa.c0
  have c1 := L9.out.fa.c1
  have c2 := L9.out.fa.c2
  have c3 := L9.out.fa.c3
  have c4 := L9.out.fa.lt
  have x0 := L9.out.fx.c0
  have x1 := L9.out.fx.c1
  have x2 := L9.out.fx.c2
  have x3 := L9.out.fx.c3
  have x4 := L9.out.fx.lt
  go_wp2_with fail
  go_region_held3 (fun w' => w'.cell? ⟨w.heap.size, 0, none⟩ = some (.int .i64 inp) ∧ w'.cell? ⟨w.heap.size, 1, none⟩ = some (.slice al ls.length cl) ∧ w'.cell? ⟨w.heap.size, 2, none⟩ = some (.slice aa xs.length ca) ∧ w'.cell? ⟨w.heap.size, 3, none⟩ = some (.slice ab bs.length cb) ∧ w'.cell? ⟨w6.heap.size, 0, none⟩ = some (.int .i64 inp) ∧ w'.cell? ⟨w6.heap.size, 1, none⟩ = some (.slice (some ⟨bl6, 0, none⟩) ls.length ls.length) ∧ w'.cell? ⟨w6.heap.size, 2, none⟩ = some (.slice (some ⟨ba6, 0, none⟩) xs.length xs.length) ∧ w'.cell? ⟨w6.heap.size, 3, none⟩ = some (.slice (some ⟨bb6, 0, none⟩) bs.length bs.length))
    (first | exact ⟨by assumption, by assumption, by assumption, by assumption, by assumption, by assumption, by assumption, by assumption⟩ | (go_keep; done))
    (first
      | (go_simp; go_at_call 9; refine (toAig_any inp al aa ab cl ca cb ls xs bs _ (HC.out _ (by first | exact L9.out.be | exact L9.out.be.drew)) hl ha hb).mono ?_; rintro e w12 ⟨blq, baq, bbq, rfl, hbz, _, _, _, hcq⟩; have hb12 : Below w9.heap.size w9 w12 := (by first | exact hbz | exact undrew hbz); have L12 : Hid (Rst w w12 w6.heap.size bl6 ba6 bb6 (w6.heap.size + 1) (.int .i64 inp) (.slice al ls.length cl) (.slice aa xs.length ca) (.slice ab bs.length cb) inp ls xs bs rows) := L9.out.below hb12; have HE12 : Hid (CirAt w12 blq baq bbq ls xs bs) := hcq; have t0 := L12.out.fa.c0; have t1 := L12.out.fa.c1; have t2 := L12.out.fa.c2; have t3 := L12.out.fa.c3; have y0 := L12.out.fx.c0; have y1 := L12.out.fx.c1; have y2 := L12.out.fx.c2; have y3 := L12.out.fx.c3; clear hb12 hbz hcq)
      | (go_simp; go_at_call 11; refine (eqAig_same inp _ _ _ _ _ _ _ _ _ _ _ _ ls xs bs _ (L12.out.cx.isCir hl ha hb) (HE12.out.isCir hl ha hb) hl ha hb).mono ?_; rintro e w13 ⟨rfl, hbz⟩; have L13 : Hid (Rst w w13 w6.heap.size bl6 ba6 bb6 (w6.heap.size + 1) (.int .i64 inp) (.slice al ls.length cl) (.slice aa xs.length ca) (.slice ab bs.length cb) inp ls xs bs rows) := L12.out.below hbz; have u0 := L13.out.fa.c0; have u1 := L13.out.fa.c1; have u2 := L13.out.fa.c2; have u3 := L13.out.fa.c3; have v0 := L13.out.fx.c0; have v1 := L13.out.fx.c1; have v2 := L13.out.fx.c2; have v3 := L13.out.fx.c3; clear hbz))
  clear c0 c1 c2 c3 c4 x0 x1 x2 x3 x4 t0 t1 t2 t3 y0 y1 y2 y3 u0 u1 u2 u3 v0 v1 v2 v3
  go_wp2_with fail
  refine (toBoolSS_any _ rows _ (HR.out _ L13.out.be) hr1).mono ?_
  rintro e w14 ⟨rfl, hbz, hzz, hrz⟩
  have L14 : Hid (Rst w w14 w6.heap.size bl6 ba6 bb6 (w6.heap.size + 1) (.int .i64 inp) (.slice al ls.length cl) (.slice aa xs.length ca) (.slice ab bs.length cb) inp ls xs bs rows) := L13.out.below hbz
  have HR14 : Hid (CopyB w14 w13.heap.size rows) := hrz
  clear hbz hzz hrz
  go_wp2_with fail
  refine (eqBoolSS_same _ _ rows _ L14.out.rx.isRows HR14.out.isRows hr1).mono ?_
  rintro e w15 ⟨rfl, nz, hwz⟩
  have hbz : Below w14.heap.size w14 w15 := by rw [hwz]; exact below_drewN (Below.refl _ _) _
  have B15 : Hid (Below w.heap.size w w15) := belNext L14.out.be hbz
  clear hbz hwz
  go_wp2
  go_ret
  exact ⟨rfl, B15.out⟩

set_option maxRecDepth 100000 in
theorem fnExactAigRun_lifted (os : Os) (started : os.Started) (H : Type) (enc : TypeId × Value → H) :
    ReturnsInHanded {} Try.checked os 6 .any (Rows.fnExactAigRunSpec.pre6 enc Try.prog Try.f6 Rows.fnExactAigRunRow.domain false) (Rows.fnExactAigRunSpec.post enc Try.prog Try.f6 false true false false) := by
  refine returnsInHanded_of_change (C := Try.checked) own started (by kernel_rfl) Try.func6
    (ChangeSpec.witness6 (enc := enc) (C := Try.checked) false ⟨#[], #[.agg #[.int .i64 0, .slice none 0 0, .slice none 0 0, .slice none 0 0], .slice none 0 0], []⟩ 8 (by kernel_rfl) (by kernel_rfl) (by kernel_rfl) (by kernel_rfl)) ?_
  intro W base args ds gs before hval0 hW hcnd _
  have hval : ∀ (j : Nat) t v, Try.f6.params[j]? = some t → args[j]? = some v → Value.okWide Try.prog W .any base t v := hval0
  have hW' := hW
  obtain ⟨p, q, hA0, hV, rfl, hfz, hnd⟩ := hW
  have hA : DataW.TrodAll enc Try.prog W 0 (fun _ => true) true Try.f6.params.toList args.toList ds p := hA0
  rw [Try.params6] at hA hval
  obtain ⟨v0, vs0, d0, ds0, p0, q0, hargs, rfl, rfl, h0, r0⟩ := trodAll_cons hA
  obtain ⟨v1, vs1, d1, ds1, p1, q1, rfl, rfl, rfl, h1, r1⟩ := trodAll_cons r0
  obtain ⟨rfl, rfl, rfl⟩ := trodAll_nil r1
  obtain rfl : args = #[v0, v1] := by cases args; simp_all
  obtain ⟨rfl, rfl⟩ := trodVars_none hV
  have k0 := h0
  have k1 := h1
  have lt0 : ∀ x ∈ p0, x.block < W.heap.size := by obtain ⟨m, hm⟩ := k0; exact DataW.trod_lt m _ _ _ hm
  have lt1 : ∀ x ∈ p1, x.block < W.heap.size := by obtain ⟨m, hm⟩ := k1; exact DataW.trod_lt m _ _ _ hm
  obtain ⟨inp, al, aa, ab, cl, ca, cb, ls, xs, bs, rfl, hC, e1, e2, e3, _⟩ := aig_of_trod (hval 0 26 v0 rfl rfl) h0
  obtain ⟨ao1, len1, cap1, rfl⟩ := okWide_slice Try.underlying45 (hval 1 45 v1 rfl rfl)
  obtain ⟨fuel1, hf1⟩ := h1
  obtain ⟨rows, hrw, hrm, hrr⟩ := isBRows_of_trod (by simpa [Value.cells] using hf1)
  obtain rfl : len1 = rows.length := by obtain ⟨_, _, he, _⟩ := hrw; cases he; rfl
  clear hA0 hval0
  refine (fnExactAigRun_walk inp al aa ab cl ca cb ls xs bs ao1 cap1 rows W hC hrw e1 e2 e3 hrm hrr).mono fun e W' ⟨he, bel⟩ => ?_
  subst he
  exact ⟨_, rfl, _, _, _, [], _, [], hW', trodAll_mk1 (shut_bool Try.underlying4 _),
    (trodAll_cons_mk (Below.trod laidOut (by kernel_rfl) (of_decide_eq_true (by kernel_rfl)) k0 bel lt0) (trodAll_cons_mk (Below.trod laidOut (by kernel_rfl) (of_decide_eq_true (by kernel_rfl)) k1 bel lt1) trodAll_mk0)), rfl, bel.frame _, fun h => by cases h⟩

theorem fnExactAigRun_holds : Rows.FnExactAigRunSaid :=
  OpenClaim.holds_of_wide 6 Try.f6 rfl rfl rfl rfl rfl rfl rfl ⟨rfl, rfl, rfl, rfl, rfl⟩ rfl rfl rfl rfl rfl (by kernel_rfl) Try.func6 (by kernel_rfl)
    (of_decide_eq_true (by kernel_rfl)) (by unfold Func.isWrapper; first | (rw [if_pos (by decide +kernel)]; kernel_rfl) | (rw [if_neg (by decide +kernel)]; exact ⟨rfl, rfl⟩))
    (fun os started H enc _ => fnExactAigRun_lifted os started H enc)

end Go.Proofs.Ytnifffbeojgfeaa
