/-
  The law FnExactAigCnf: at every argument the program's AigCnf answers as the model's, writes into no argument, and its answer owns its memory. No condition: every argument that can be read.
-/
import Derived.Test.YtbdjdgamnnifjaaCnfD
import Derived.Test.YtbdjdgamnnifjaaCnfE
import Derived.Test.YtbdjdgamnnifjaaAigOpen
import Derived.Deep.Grids
namespace Go.Proofs.Ytbdjdgamnnifjaa
open Go.ChangeShapes Go.WideShapes Go.ChangeAt Go.RowKit Go.Deep Go.Joins
set_option linter.unusedVariables false

theorem sumLen_small (css : List (List Int)) (h : ∀ c ∈ css, c.length ≤ 10) : sumLen css ≤ 10 * css.length := by
  unfold sumLen
  induction css with
  | nil => simp
  | cons c cs ih =>
    have h1 := h c (by simp)
    have h2 := ih (fun d hd => h d (by simp [hd]))
    simp only [List.map_cons, List.sum_cons, List.length_cons]
    omega

theorem cnfCss_small (inp : Int) (ls : List (Int × Bool)) (xs : List (Int × Int)) (bs : List Int) : (cnfCss inp ls xs bs).length ≤ 120 ∧ ∀ c ∈ cnfCss inp ls xs bs, c.length ≤ 10 := by
  unfold cnfCss
  split
  · rename_i h
    unfold okC sizesB at h
    simp only [Bool.and_eq_true, decide_eq_true_eq] at h
    have := clsF_le (1 + inp + ls.length) xs xs.length
    exact ⟨by omega, clsF_wide _ _ _⟩
  · exact ⟨by simp, fun c hc => by cases hc⟩

/-- What stands while the law goes on. -/
structure Kst (w V : World) (s3 s4 s5 lo3 hi3 lo5 hi5 bl4 ba4 bb4 c3 c5 : Nat) (a3 a5 : Option Addr) (vars : Int) (css : List (List Int)) (inp : Int) (al aa ab : Option Addr) (cl ca cb : Nat) (ls : List (Int × Bool)) (xs : List (Int × Int)) (bs : List Int) : Prop where
  fa : Four V w.heap.size (.int .i64 inp) (.slice al ls.length cl) (.slice aa xs.length ca) (.slice ab bs.length cb)
  b3 : BlkC V s3 (.int .i64 vars) (.slice a3 css.length c3)
  g3 : GridL V lo3 hi3 (.slice a3 css.length c3) css
  fx : Four V s4 (.int .i64 inp) (.slice (some ⟨bl4, 0, none⟩) ls.length ls.length) (.slice (some ⟨ba4, 0, none⟩) xs.length xs.length) (.slice (some ⟨bb4, 0, none⟩) bs.length bs.length)
  cx : CirAt V bl4 ba4 bb4 ls xs bs
  b5 : BlkC V s5 (.int .i64 vars) (.slice a5 css.length c5)
  g5 : GridL V lo5 hi5 (.slice a5 css.length c5) css
  be : Below w.heap.size w V

theorem Kst.below {w V V' : World} {s3 s4 s5 lo3 hi3 lo5 hi5 bl4 ba4 bb4 c3 c5 : Nat} {a3 a5 : Option Addr} {vars : Int} {css : List (List Int)} {inp : Int} {al aa ab : Option Addr} {cl ca cb : Nat} {ls : List (Int × Bool)} {xs : List (Int × Int)} {bs : List Int}
    (h : Kst w V s3 s4 s5 lo3 hi3 lo5 hi5 bl4 ba4 bb4 c3 c5 a3 a5 vars css inp al aa ab cl ca cb ls xs bs) (hb : Below V.heap.size V V') : Kst w V' s3 s4 s5 lo3 hi3 lo5 hi5 bl4 ba4 bb4 c3 c5 a3 a5 vars css inp al aa ab cl ca cb ls xs bs :=
  ⟨h.fa.below hb, h.b3.below hb, GridF.below h.g3 hb, h.fx.below hb, h.cx.below hb, h.b5.below hb, GridF.below h.g5 hb, belNext h.be hb⟩

theorem GridL.rows {w : World} {lo hi : Nat} {v : Value} {css : List (List Int)} (h : GridL w lo hi v css) : IsRows w v css := GridF.isRows h (fun i _ => rfl)

set_option maxRecDepth 100000 in
set_option maxHeartbeats 8000000 in
theorem fnExactAigCnf_walk (inp : Int) (al aa ab : Option Addr) (cl ca cb : Nat) (ls : List (Int × Bool)) (xs : List (Int × Int)) (bs : List Int) (w : World) (hC : IsCir w al aa ab cl ca cb ls xs bs)
    (hl64 : ∀ p ∈ ls, I64 p.1) (hx64 : ∀ p ∈ xs, I64 p.1 ∧ I64 p.2) (hb64 : ∀ x ∈ bs, I64 x) :
    Calls Try.prog 7 #[.agg #[.int .i64 inp, .slice al ls.length cl, .slice aa xs.length ca, .slice ab bs.length cb]] w fun e w' => e = .returned (.bool true) ∧ Below w.heap.size w w' := by
  have HB0 : Hid (Below w.heap.size w (w.alloc (.cells #[.int .i64 inp, .slice al ls.length cl, .slice aa xs.length ca, .slice ab bs.length cb] 26))) := belOne _ _
  have HC : Hid (∀ w', Below w.heap.size w w' → IsCir w' al aa ab cl ca cb ls xs bs) := fun w' h => hC.below h
  have HSZ : Hid (Calls Try.prog 11 #[.agg #[.int .i64 inp, .slice al ls.length cl, .slice aa xs.length ca, .slice ab bs.length cb], .int .i64 1048576] (w.alloc (.cells #[.int .i64 inp, .slice al ls.length cl, .slice aa xs.length ca, .slice ab bs.length cb] 26)) fun e w' => e = .returned (.int .i64 (szC ls.length xs.length bs.length)) ∧ Below (w.alloc (.cells #[.int .i64 inp, .slice al ls.length cl, .slice aa xs.length ca, .slice ab bs.length cb] 26)).heap.size (w.alloc (.cells #[.int .i64 inp, .slice al ls.length cl, .slice aa xs.length ca, .slice ab bs.length cb] 26)) w') := szAig_any inp al aa ab ls.length cl xs.length ca bs.length cb _ hC.lenL hC.lenA hC.lenB
  have HT0 : Hid (Four (w.alloc (.cells #[.int .i64 inp, .slice al ls.length cl, .slice aa xs.length ca, .slice ab bs.length cb] 26)) w.heap.size (.int .i64 inp) (.slice al ls.length cl) (.slice aa xs.length ca) (.slice ab bs.length cb)) := Four.new _ _ _ _ _ _
  have HL64 : Hid (∀ p ∈ ls, I64 p.1) := hl64
  have HX64 : Hid (∀ p ∈ xs, I64 p.1 ∧ I64 p.2) := hx64
  have HB64 : Hid (∀ x ∈ bs, I64 x) := hb64
  clear hC hl64 hx64 hb64
  by_cases hbig : ls.length + xs.length + bs.length ≤ 1048576
  case neg =>
    have HZ : Hid (szC ls.length xs.length bs.length = -1) := by show szC ls.length xs.length bs.length = _; unfold szC; rw [if_neg hbig]
    go_enter Try.func7, Try.ntmps7
    go_wp2_with fail
    refine HSZ.out.mono ?_
    rintro e w1 ⟨rfl, hb1⟩
    rw [HZ.out]
    have HB1 : Hid (Below w.heap.size w w1) := belNext HB0.out hb1
    clear hb1
    go_wp2
    go_ret
    exact ⟨rfl, HB1.out⟩
  have hl : ls.length ≤ 1048576 := by omega
  have ha : xs.length ≤ 1048576 := by omega
  have hb : bs.length ≤ 1048576 := by omega
  have HZ : Hid (szC ls.length xs.length bs.length = 1048576 - ((ls.length : Int) + xs.length + bs.length)) := by show szC ls.length xs.length bs.length = _; unfold szC; rw [if_pos hbig]
  go_enter Try.func7, Try.ntmps7
  go_wp2_with fail
  refine HSZ.out.mono ?_
  rintro e w1 ⟨rfl, hb1⟩
  rw [HZ.out]
  have HB1 : Hid (Below w.heap.size w w1) := belNext HB0.out hb1
  have HT1 : Hid (Four w1 w.heap.size (.int .i64 inp) (.slice al ls.length cl) (.slice aa xs.length ca) (.slice ab bs.length cb)) := HT0.out.below hb1
  clear hb1
  have c0 := HT1.out.c0
  have c1 := HT1.out.c1
  have c2 := HT1.out.c2
  have c3 := HT1.out.c3
  have c4 := HT1.out.lt
  go_wp2_with fail
  refine (toAig_any inp al aa ab cl ca cb ls xs bs _ (HC.out _ HB1.out) hl ha hb).mono ?_
  rintro e w2 ⟨bl2, ba2, bb2, rfl, hb2, _, _, _, hc2⟩
  have HB2 : Hid (Below w.heap.size w w2) := belNext HB1.out hb2
  have HT2 : Hid (Four w2 w.heap.size (.int .i64 inp) (.slice al ls.length cl) (.slice aa xs.length ca) (.slice ab bs.length cb)) := HT1.out.below hb2
  have HD2 : Hid (CirAt w2 bl2 ba2 bb2 ls xs bs) := hc2
  clear hb2 hc2 c0 c1 c2 c3 c4
  obtain ⟨css, hcss⟩ : ∃ css, cnfCss inp ls xs bs = css := ⟨_, rfl⟩
  obtain ⟨vars, hvars⟩ : ∃ vars, cnfVars inp ls xs bs = vars := ⟨_, rfl⟩
  have HCSS := hideN hcss
  have HVARS := hideN hvars
  have hc120 : css.length ≤ 120 := by rw [← hcss]; exact (cnfCss_small _ _ _ _).1
  have HWD : Hid (∀ c ∈ css, c.length ≤ 10) := by show ∀ c ∈ css, c.length ≤ 10; rw [← hcss]; exact (cnfCss_small _ _ _ _).2
  have HSL : Hid (css.length + sumLen css ≤ 1048576) := by have := sumLen_small css HWD.out; show _ ≤ _; omega
  have HWF : Hid (∀ i, i < css.length → (css.getD i []).length ≤ 1000) := fun i hi => by
    have := HWD.out (css.getD i []) (by rw [List.getD, List.getElem?_eq_getElem hi]; simp)
    omega
  clear hcss hvars
  go_wp2_with fail
  refine (specAigCnf_any inp _ _ _ _ _ _ ls xs bs _ (HD2.out.isCir hl ha hb) HL64.out HX64.out HB64.out).mono ?_
  rintro e w3 ⟨a3, m3, c3', rfl, hm3, hg3, hb3⟩
  rw [HCSS.out] at hm3 hg3
  rw [HVARS.out]
  subst hm3
  have HB3 : Hid (Below w.heap.size w (w3.alloc (.cells #[.int .i64 vars, .slice a3 css.length c3'] 55))) := belNext (belNext HB2.out hb3) (belOne _ _)
  have HT3 : Hid (Four (w3.alloc (.cells #[.int .i64 vars, .slice a3 css.length c3'] 55)) w.heap.size (.int .i64 inp) (.slice al ls.length cl) (.slice aa xs.length ca) (.slice ab bs.length cb)) := (HT2.out.below hb3).below (belOne _ _)
  have HK3 : Hid (BlkC (w3.alloc (.cells #[.int .i64 vars, .slice a3 css.length c3'] 55)) w3.heap.size (.int .i64 vars) (.slice a3 css.length c3')) := BlkC.new _ _ _
  have HG3 : Hid (GridL (w3.alloc (.cells #[.int .i64 vars, .slice a3 css.length c3'] 55)) w2.heap.size w3.heap.size (.slice a3 css.length c3') css) := GridF.below hg3 (belOne _ _)
  have hs23 : w.heap.size < w3.heap.size := Nat.lt_of_lt_of_le HT2.out.lt hb3.size
  clear hb3 hg3
  have c0 := HT3.out.c0
  have c1 := HT3.out.c1
  have c2 := HT3.out.c2
  have c3 := HT3.out.c3
  have c4 := HT3.out.lt
  go_wp2_with fail
  refine (toAig_any inp al aa ab cl ca cb ls xs bs _ (HC.out _ HB3.out) hl ha hb).mono ?_
  rintro e w4 ⟨bl4, ba4, bb4, rfl, hb4, hle4, hlt4, hlu4, hc4⟩
  simp only [World.size_alloc] at hle4
  have HB4 : Hid (Below w.heap.size w w4) := belNext HB3.out hb4
  have HT4 := hideN (HT3.out.below hb4)
  have HK4 := hideN (HK3.out.below hb4)
  have HG4 := hideN (GridF.below HG3.out hb4)
  have HD4 : Hid (CirAt w4 bl4 ba4 bb4 ls xs bs) := hc4
  clear hb4 hc4 c0 c1 c2 c3 c4
  have hbb4 : bb4 < w4.heap.size := HD4.out.rb.lt
  have HX4 : Hid (Four (w4.alloc (.cells #[.int .i64 inp, .slice (some ⟨bl4, 0, none⟩) ls.length ls.length, .slice (some ⟨ba4, 0, none⟩) xs.length xs.length, .slice (some ⟨bb4, 0, none⟩) bs.length bs.length] 33)) w4.heap.size (.int .i64 inp) (.slice (some ⟨bl4, 0, none⟩) ls.length ls.length) (.slice (some ⟨ba4, 0, none⟩) xs.length xs.length) (.slice (some ⟨bb4, 0, none⟩) bs.length bs.length)) := Four.new _ _ _ _ _ _
  have HB4a : Hid (Below w4.heap.size w4 (w4.alloc (.cells #[.int .i64 inp, .slice (some ⟨bl4, 0, none⟩) ls.length ls.length, .slice (some ⟨ba4, 0, none⟩) xs.length xs.length, .slice (some ⟨bb4, 0, none⟩) bs.length bs.length] 33))) := belOne _ _
  have c0 := HX4.out.c0
  have c1 := HX4.out.c1
  have c2 := HX4.out.c2
  have c3 := HX4.out.c3
  go_wp2_with fail
  refine (implAigCnf_any inp _ _ _ _ _ _ ls xs bs _ ((HD4.out.isCir hl ha hb).below HB4a.out) HX64.out).mono ?_
  rintro e w5 ⟨a5, m5, c5, rfl, hm5, hg5, hb5⟩
  rw [HCSS.out] at hm5 hg5
  rw [HVARS.out]
  subst hm5
  simp only [World.size_alloc] at hg5
  have hb5' := belNext HB4a.out hb5
  have hs45 : w4.heap.size + 1 ≤ w5.heap.size := by have h := hb5.size; simpa using h
  have L5 : Hid (Kst w (w5.alloc (.cells #[.int .i64 vars, .slice a5 css.length c5] 55)) w3.heap.size w4.heap.size w5.heap.size w2.heap.size w3.heap.size (w4.heap.size + 1) w5.heap.size bl4 ba4 bb4 c3' c5 a3 a5 vars css inp al aa ab cl ca cb ls xs bs) :=
    ⟨(HT4.out.below hb5').below (belOne _ _), (HK4.out.below hb5').below (belOne _ _), GridF.below (GridF.below HG4.out hb5') (belOne _ _), (HX4.out.below hb5).below (belOne _ _), (HD4.out.below hb5').below (belOne _ _), BlkC.new _ _ _, GridF.below hg5 (belOne _ _), belNext (belNext HB4.out hb5') (belOne _ _)⟩
  have K5 := hideN (HK4.out.below hb5')
  clear hb5 hb5' hg5 c0 c1 c2 c3
  have x0 := K5.out.c0
  have x1 := K5.out.c1
  have x2 := K5.out.lt
  go_wp2_with fail
  generalize (w5.alloc (.cells #[.int .i64 vars, .slice a5 css.length c5] 55)) = W5 at *
  refine (eqCnf_same vars _ _ css _ L5.out.g5.rows L5.out.g3.rows HSL.out).mono ?_
  rintro e w10 ⟨rfl, hb10⟩
  have L10 := hideN (L5.out.below hb10)
  clear hb10 x0 x1
  have c0 := L10.out.fa.c0
  have c1 := L10.out.fa.c1
  have c2 := L10.out.fa.c2
  have c3 := L10.out.fa.c3
  have c4 := L10.out.fa.lt
  have x0 := L10.out.fx.c0
  have x1 := L10.out.fx.c1
  clear x2
  have x2 := L10.out.fx.c2
  have x3 := L10.out.fx.c3
  have x4 := L10.out.fx.lt
  go_wp2_with fail
  go_region_held3 (fun w' => w'.cell? ⟨w.heap.size, 0, none⟩ = some (.int .i64 inp) ∧ w'.cell? ⟨w.heap.size, 1, none⟩ = some (.slice al ls.length cl) ∧ w'.cell? ⟨w.heap.size, 2, none⟩ = some (.slice aa xs.length ca) ∧ w'.cell? ⟨w.heap.size, 3, none⟩ = some (.slice ab bs.length cb) ∧ w'.cell? ⟨w4.heap.size, 0, none⟩ = some (.int .i64 inp) ∧ w'.cell? ⟨w4.heap.size, 1, none⟩ = some (.slice (some ⟨bl4, 0, none⟩) ls.length ls.length) ∧ w'.cell? ⟨w4.heap.size, 2, none⟩ = some (.slice (some ⟨ba4, 0, none⟩) xs.length xs.length) ∧ w'.cell? ⟨w4.heap.size, 3, none⟩ = some (.slice (some ⟨bb4, 0, none⟩) bs.length bs.length))
    (first | exact ⟨by assumption, by assumption, by assumption, by assumption, by assumption, by assumption, by assumption, by assumption⟩ | (go_keep; done))
    (first
      | (go_simp; go_at_call 13; refine (toAig_any inp al aa ab cl ca cb ls xs bs _ (HC.out _ (by first | exact L10.out.be | exact L10.out.be.drew)) hl ha hb).mono ?_; rintro e w11 ⟨blq, baq, bbq, rfl, hbz, _, _, _, hcq⟩; have hb11 : Below w10.heap.size w10 w11 := (by first | exact hbz | exact undrew hbz); have L11 : Hid (Kst w w11 w3.heap.size w4.heap.size w5.heap.size w2.heap.size w3.heap.size (w4.heap.size + 1) w5.heap.size bl4 ba4 bb4 c3' c5 a3 a5 vars css inp al aa ab cl ca cb ls xs bs) := L10.out.below hb11; have HE11 : Hid (CirAt w11 blq baq bbq ls xs bs) := hcq; have t0 := L11.out.fa.c0; have t1 := L11.out.fa.c1; have t2 := L11.out.fa.c2; have t3 := L11.out.fa.c3; have y0 := L11.out.fx.c0; have y1 := L11.out.fx.c1; have y2 := L11.out.fx.c2; have y3 := L11.out.fx.c3; clear hb11 hbz hcq)
      | (go_simp; go_at_call 17; refine (eqAig_same inp _ _ _ _ _ _ _ _ _ _ _ _ ls xs bs _ (L11.out.cx.isCir hl ha hb) (HE11.out.isCir hl ha hb) hl ha hb).mono ?_; rintro e w12 ⟨rfl, hbz⟩; have L12 : Hid (Kst w w12 w3.heap.size w4.heap.size w5.heap.size w2.heap.size w3.heap.size (w4.heap.size + 1) w5.heap.size bl4 ba4 bb4 c3' c5 a3 a5 vars css inp al aa ab cl ca cb ls xs bs) := L11.out.below hbz; have u0 := L12.out.fa.c0; have u1 := L12.out.fa.c1; have u2 := L12.out.fa.c2; have u3 := L12.out.fa.c3; have v0 := L12.out.fx.c0; have v1 := L12.out.fx.c1; have v2 := L12.out.fx.c2; have v3 := L12.out.fx.c3; clear hbz))
  clear c0 c1 c2 c3 c4 x0 x1 x2 x3 x4 t0 t1 t2 t3 y0 y1 y2 y3 u0 u1 u2 u3 v0 v1 v2 v3
  have x0 := L12.out.fx.c0
  have x1 := L12.out.fx.c1
  have x2 := L12.out.fx.c2
  have x3 := L12.out.fx.c3
  have x4 := L12.out.fx.lt
  go_wp2_with fail
  refine (markAig_any inp bl4 ba4 bb4 ls xs bs _ L12.out.cx (by omega) (by omega) (by omega) hl ha hb).mono ?_
  rintro e w17 ⟨⟨q, rfl, hq0, hq1⟩, hch17⟩
  have hin : ∀ k, inCir bl4 ba4 bb4 k → w3.heap.size + 1 ≤ k ∧ k < w4.heap.size := fun k hk => by
    unfold inCir at hk
    omega
  have A17 := hideN (hch17.four L12.out.fa (fun hk => by have := hin _ hk; omega))
  have K17 := hideN (L12.out.b3.chg hch17 (fun hk => by have := hin _ hk; omega))
  have M17 := hideN (L12.out.b5.chg hch17 (fun hk => by have := hin _ hk; omega))
  have W17 := hideN (GridF.chg L12.out.g3 hch17 (fun k _ h2 hk => by have := hin _ hk; omega))
  have G17 := hideN (GridF.chg L12.out.g5 hch17 (fun k h1 _ hk => by have := hin _ hk; omega))
  have B17 : Hid (Below w.heap.size w w17) := Chg.below L12.out.be L12.out.be.size hch17 (fun k hk => by have := hin _ hk; omega)
  clear hch17 hin x0 x1 x2 x3 x4
  have dk : decide (q < 0) = false := by simp; omega
  have x0 := K17.out.c0
  have x1 := K17.out.c1
  have x2 := M17.out.c0
  have x3 := M17.out.c1
  go_wp2_with fail
  refine (eqCnf_same vars _ _ css _ (GridL.rows G17.out) (GridL.rows W17.out) HSL.out).mono ?_
  rintro e w20 ⟨rfl, hb20⟩
  have A20 := hideN (A17.out.below hb20)
  have K20 := hideN (K17.out.below hb20)
  have M20 := hideN (M17.out.below hb20)
  have W20 := hideN (GridF.below W17.out hb20)
  have G20 := hideN (GridF.below G17.out hb20)
  have B20 : Hid (Below w.heap.size w w20) := belNext B17.out hb20
  clear hb20 x0 x1 x2 x3
  have x2 := M20.out.c0
  have x3 := M20.out.c1
  have x5 := M20.out.lt
  go_wp2_with fail
  refine (markCnf_any (w4.heap.size + 1) w5.heap.size css.length (fun i => css.getD i []) vars a5 c5 1 _ G20.out (by omega) (by omega) HWF.out (by omega) (by omega)).mono ?_
  rintro e w21 ⟨rfl, hg21, hch21⟩
  have A21 := hideN (hch21.four A20.out (fun hk => by omega))
  have K21 := hideN (K20.out.chg hch21 (fun hk => by omega))
  have M21 := hideN (M20.out.chg hch21 (fun hk => by omega))
  have W21 := hideN (GridF.chg W20.out hch21 (fun k _ h2 hk => by omega))
  have G21 := hideN hg21
  have B21 : Hid (Below w.heap.size w w21) := Chg.below B20.out B20.out.size hch21 (fun k hk => by omega)
  clear hch21 hg21 x2 x3 x5
  obtain ⟨off, hoff⟩ : ∃ off, offG (fun i => css.getD i []) css.length = off := ⟨_, rfl⟩
  have hoff1 : off ≤ 1000000 := by rw [← hoff]; have := offG_le (fun i => css.getD i []) css.length 1000 HWF.out; omega
  have HOFF := hideN hoff
  rw [hoff]
  clear hoff
  have x2 := M21.out.c0
  have x3 := M21.out.c1
  go_wp2_with fail
  refine (heldCnf_any (w4.heap.size + 1) w5.heap.size css.length (fun i => css.getD i []) vars a5 c5 1 _ G21.out (by omega) HWF.out (by omega) (by omega)).mono ?_
  rintro e w22' ⟨he, hb22'⟩
  rw [HOFF.out] at he
  subst he
  have A22 := hideN (A21.out.below hb22')
  have K22 := hideN (K21.out.below hb22')
  have M22 := hideN (M21.out.below hb22')
  have W22' := hideN (GridF.below W21.out hb22')
  have G22' := hideN (GridF.below G21.out hb22')
  have B22' : Hid (Below w.heap.size w w22') := belNext B21.out hb22'
  clear hb22' x2 x3
  have c0 := A22.out.c0
  have c1 := A22.out.c1
  have c2 := A22.out.c2
  have c3 := A22.out.c3
  have c4 := A22.out.lt
  go_wp2_with fail
  refine (toAig_any inp al aa ab cl ca cb ls xs bs _ (HC.out _ B22'.out) hl ha hb).mono ?_
  rintro e w22 ⟨bl7, ba7, bb7, rfl, hb22, _, _, _, hc22⟩
  have B22 : Hid (Below w.heap.size w w22) := belNext B22'.out hb22
  have K23 := hideN (K22.out.below hb22)
  have M23 := hideN (M22.out.below hb22)
  have W23 := hideN (GridF.below W22'.out hb22)
  have G23 := hideN (GridF.below G22'.out hb22)
  have D22 : Hid (CirAt w22 bl7 ba7 bb7 ls xs bs) := hc22
  clear hb22 hc22 c0 c1 c2 c3 c4
  go_wp2_with fail
  refine (implAigCnf_any inp _ _ _ _ _ _ ls xs bs _ (D22.out.isCir hl ha hb) HX64.out).mono ?_
  rintro e w25 ⟨a25, m25, c25, rfl, hm25, hg25, hb25⟩
  rw [HCSS.out] at hm25 hg25
  rw [HVARS.out]
  subst hm25
  have B25 : Hid (Below w.heap.size w (w25.alloc (.cells #[.int .i64 vars, .slice a25 css.length c25] 55))) := belNext (belNext B22.out hb25) (belOne _ _)
  have K25 := hideN ((K23.out.below hb25).below (belOne w25 (.cells #[.int .i64 vars, .slice a25 css.length c25] 55)))
  have M25 := hideN ((M23.out.below hb25).below (belOne w25 (.cells #[.int .i64 vars, .slice a25 css.length c25] 55)))
  have W25 := hideN (GridF.below (GridF.below W23.out hb25) (belOne w25 (.cells #[.int .i64 vars, .slice a25 css.length c25] 55)))
  have G25 := hideN (GridF.below (GridF.below G23.out hb25) (belOne w25 (.cells #[.int .i64 vars, .slice a25 css.length c25] 55)))
  have O25 := hideN (GridF.below hg25 (belOne w25 (.cells #[.int .i64 vars, .slice a25 css.length c25] 55)))
  have N25 : Hid (BlkC (w25.alloc (.cells #[.int .i64 vars, .slice a25 css.length c25] 55)) w25.heap.size (.int .i64 vars) (.slice a25 css.length c25)) := BlkC.new _ _ _
  have K24 := hideN (K23.out.below hb25)
  clear hb25 hg25
  have x0 := K24.out.c0
  have x1 := K24.out.c1
  have x7 := K24.out.lt
  go_wp2_with fail
  generalize (w25.alloc (.cells #[.int .i64 vars, .slice a25 css.length c25] 55)) = W25x at *
  refine (eqCnf_same vars _ _ css _ (GridL.rows O25.out) (GridL.rows W25.out) HSL.out).mono ?_
  rintro e w26 ⟨rfl, hb26⟩
  have M26 := hideN (M25.out.below hb26)
  have G26 := hideN (GridF.below G25.out hb26)
  have B26 : Hid (Below w.heap.size w w26) := belNext B25.out hb26
  clear hb26 x0 x1 x7
  have x2 := M26.out.c0
  have x3 := M26.out.c1
  go_wp2_with fail
  refine (heldCnf_any (w4.heap.size + 1) w5.heap.size css.length (fun i => css.getD i []) vars a5 c5 1 _ G26.out (by omega) HWF.out (by omega) (by omega)).mono ?_
  rintro e w27 ⟨he, hb27⟩
  rw [HOFF.out] at he
  subst he
  have B27 : Hid (Below w.heap.size w w27) := belNext B26.out hb27
  clear hb27
  go_wp2
  go_ret
  exact ⟨rfl, B27.out⟩

set_option maxRecDepth 100000 in
theorem fnExactAigCnf_lifted (os : Os) (started : os.Started) (H : Type) (enc : TypeId × Value → H) :
    ReturnsInHanded {} Try.checked os 7 .any (Rows.fnExactAigCnfSpec.pre6 enc Try.prog Try.f7 Rows.fnExactAigCnfRow.domain false) (Rows.fnExactAigCnfSpec.post enc Try.prog Try.f7 false true false false) := by
  refine returnsInHanded_of_change (C := Try.checked) own started (by kernel_rfl) Try.func7
    (ChangeSpec.witness6 (enc := enc) (C := Try.checked) false ⟨#[], #[.agg #[.int .i64 0, .slice none 0 0, .slice none 0 0, .slice none 0 0]], []⟩ 8 (by kernel_rfl) (by kernel_rfl) (by kernel_rfl) (by kernel_rfl)) ?_
  intro W base args ds gs before hval0 hW hcnd _
  have hval : ∀ (j : Nat) t v, Try.f7.params[j]? = some t → args[j]? = some v → Value.okWide Try.prog W .any base t v := hval0
  have hW' := hW
  obtain ⟨p, q, hA0, hV, rfl, hfz, hnd⟩ := hW
  have hA : DataW.TrodAll enc Try.prog W 0 (fun _ => true) true Try.f7.params.toList args.toList ds p := hA0
  rw [Try.params7] at hA hval
  obtain ⟨v0, vs0, d0, ds0, p0, q0, hargs, rfl, rfl, h0, r0⟩ := trodAll_cons hA
  obtain ⟨rfl, rfl, rfl⟩ := trodAll_nil r0
  obtain rfl : args = #[v0] := by cases args; simp_all
  obtain ⟨rfl, rfl⟩ := trodVars_none hV
  have k0 := h0
  have lt0 : ∀ x ∈ p0, x.block < W.heap.size := by obtain ⟨m, hm⟩ := k0; exact DataW.trod_lt m _ _ _ hm
  obtain ⟨inp, al, aa, ab, cl, ca, cb, ls, xs, bs, rfl, hC, e1, e2, e3, _⟩ := aig_of_trod (hval 0 26 v0 rfl rfl) h0
  clear hA0 hval0
  refine (fnExactAigCnf_walk inp al aa ab cl ca cb ls xs bs W hC e1 e2 e3).mono fun e W' ⟨he, bel⟩ => ?_
  subst he
  exact ⟨_, rfl, _, _, _, [], _, [], hW', trodAll_mk1 (shut_bool Try.underlying4 _),
    (trodAll_cons_mk (Below.trod laidOut (by kernel_rfl) (of_decide_eq_true (by kernel_rfl)) k0 bel lt0) trodAll_mk0), rfl, bel.frame _, fun h => by cases h⟩

theorem fnExactAigCnf_holds : Rows.FnExactAigCnfSaid :=
  OpenClaim.holds_of_wide 7 Try.f7 rfl rfl rfl rfl rfl rfl rfl ⟨rfl, rfl, rfl, rfl, rfl⟩ rfl rfl rfl rfl rfl (by kernel_rfl) Try.func7 (by kernel_rfl)
    (of_decide_eq_true (by kernel_rfl)) (by unfold Func.isWrapper; first | (rw [if_pos (by decide +kernel)]; kernel_rfl) | (rw [if_neg (by decide +kernel)]; exact ⟨rfl, rfl⟩))
    (fun os started H enc _ => fnExactAigCnf_lifted os started H enc)

end Go.Proofs.Ytbdjdgamnnifjaa
