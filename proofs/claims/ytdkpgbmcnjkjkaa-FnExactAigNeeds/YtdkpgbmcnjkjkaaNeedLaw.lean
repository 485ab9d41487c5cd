/-
  The law FnExactAigNeeds: at every argument the program's AigNeeds answers as the model's, writes into no argument, and its answer owns its memory. No condition: every argument that can be read.
-/
import Derived.Test.YtdkpgbmcnjkjkaaNeed8
import Derived.Test.YtdkpgbmcnjkjkaaAigOpen
import Derived.Deep.Grids
namespace Go.Proofs.Ytdkpgbmcnjkjkaa
open Go.ChangeShapes Go.WideShapes Go.ChangeAt Go.RowKit Go.Deep Go.Joins
set_option linter.unusedVariables false

/-- What stands while the law goes on. -/
structure Nst (w V : World) (s3 s5 bX bl4 ba4 bb4 : Nat) (inp : Int) (al aa ab : Option Addr) (cl ca cb : Nat) (ls : List (Int × Bool)) (xs : List (Int × Int)) (bs : List Int) (vs : List Int) (vw vg : Value) : Prop where
  fa : Four V w.heap.size (.int .i64 inp) (.slice al ls.length cl) (.slice aa xs.length ca) (.slice ab bs.length cb)
  fx : Four V bX (.int .i64 inp) (.slice (some ⟨bl4, 0, none⟩) ls.length ls.length) (.slice (some ⟨ba4, 0, none⟩) xs.length xs.length) (.slice (some ⟨bb4, 0, none⟩) bs.length bs.length)
  cx : CirAt V bl4 ba4 bb4 ls xs bs
  ow : Owni V s3 vw vs
  og : Owni V s5 vg vs
  be : Below w.heap.size w V

theorem Nst.below {w V V' : World} {s3 s5 bX bl4 ba4 bb4 : Nat} {inp : Int} {al aa ab : Option Addr} {cl ca cb : Nat} {ls : List (Int × Bool)} {xs : List (Int × Int)} {bs : List Int} {vs : List Int} {vw vg : Value}
    (h : Nst w V s3 s5 bX bl4 ba4 bb4 inp al aa ab cl ca cb ls xs bs vs vw vg) (hb : Below V.heap.size V V') : Nst w V' s3 s5 bX bl4 ba4 bb4 inp al aa ab cl ca cb ls xs bs vs vw vg :=
  ⟨h.fa.below hb, h.fx.below hb, h.cx.below hb, h.ow.below hb, h.og.below hb, belNext h.be hb⟩

set_option maxRecDepth 100000 in
set_option maxHeartbeats 8000000 in
theorem fnExactAigNeeds_walk (inp : Int) (al aa ab : Option Addr) (cl ca cb : Nat) (ls : List (Int × Bool)) (xs : List (Int × Int)) (bs : List Int) (lit : Int) (w : World) (hC : IsCir w al aa ab cl ca cb ls xs bs)
    (hl64 : ∀ p ∈ ls, I64 p.1) (hx64 : ∀ p ∈ xs, I64 p.1 ∧ I64 p.2) (hb64 : ∀ x ∈ bs, I64 x) (hlit : I64 lit) :
    Calls Try.prog 6 #[.agg #[.int .i64 inp, .slice al ls.length cl, .slice aa xs.length ca, .slice ab bs.length cb], .int .i64 lit] w fun e w' => e = .returned (.bool true) ∧ Below w.heap.size w w' := by
  have HB0 : Hid (Below w.heap.size w (w.alloc (.cells #[.int .i64 inp, .slice al ls.length cl, .slice aa xs.length ca, .slice ab bs.length cb] 26))) := belOne _ _
  have HC : Hid (∀ w', Below w.heap.size w w' → IsCir w' al aa ab cl ca cb ls xs bs) := fun w' h => hC.below h
  have HSZ : Hid (Calls Try.prog 11 #[.agg #[.int .i64 inp, .slice al ls.length cl, .slice aa xs.length ca, .slice ab bs.length cb], .int .i64 1048576] (w.alloc (.cells #[.int .i64 inp, .slice al ls.length cl, .slice aa xs.length ca, .slice ab bs.length cb] 26)) fun e w' => e = .returned (.int .i64 (szC ls.length xs.length bs.length)) ∧ Below (w.alloc (.cells #[.int .i64 inp, .slice al ls.length cl, .slice aa xs.length ca, .slice ab bs.length cb] 26)).heap.size (w.alloc (.cells #[.int .i64 inp, .slice al ls.length cl, .slice aa xs.length ca, .slice ab bs.length cb] 26)) w') := szAig_any inp al aa ab ls.length cl xs.length ca bs.length cb _ hC.lenL hC.lenA hC.lenB
  have HT0 : Hid (Four (w.alloc (.cells #[.int .i64 inp, .slice al ls.length cl, .slice aa xs.length ca, .slice ab bs.length cb] 26)) w.heap.size (.int .i64 inp) (.slice al ls.length cl) (.slice aa xs.length ca) (.slice ab bs.length cb)) := Four.new _ _ _ _ _ _
  have HL64 : Hid (∀ p ∈ ls, I64 p.1) := hl64
  have HX64 : Hid (∀ p ∈ xs, I64 p.1 ∧ I64 p.2) := hx64
  have HB64 : Hid (∀ x ∈ bs, I64 x) := hb64
  have HLI : Hid (I64 lit) := hlit
  clear hC hl64 hx64 hb64 hlit
  by_cases hbig : ls.length + xs.length + bs.length ≤ 1048576
  case neg =>
    have HZ : Hid (szC ls.length xs.length bs.length = -1) := by show szC ls.length xs.length bs.length = _; unfold szC; rw [if_neg hbig]
    go_enter Try.func6, Try.ntmps6
    go_wp2_with fail
    refine HSZ.out.mono ?_
    rintro e w1 ⟨rfl, hb1⟩
    rw [HZ.out]
    have HB1 : Hid (Below w.heap.size w w1) := belNext HB0.out hb1
    clear hb1
    go_wp2
    go_ret
    exact ⟨rfl, HB1.out⟩
  have hl : ls.length ≤ 1048576 := by omega
  have ha : xs.length ≤ 1048576 := by omega
  have hb : bs.length ≤ 1048576 := by omega
  have HZ : Hid (szC ls.length xs.length bs.length = 1048576 - ((ls.length : Int) + xs.length + bs.length)) := by show szC ls.length xs.length bs.length = _; unfold szC; rw [if_pos hbig]
  go_enter Try.func6, Try.ntmps6
  go_wp2_with fail
  refine HSZ.out.mono ?_
  rintro e w1 ⟨rfl, hb1⟩
  rw [HZ.out]
  have HB1 : Hid (Below w.heap.size w w1) := belNext HB0.out hb1
  have HT1 : Hid (Four w1 w.heap.size (.int .i64 inp) (.slice al ls.length cl) (.slice aa xs.length ca) (.slice ab bs.length cb)) := HT0.out.below hb1
  clear hb1
  have c0 := HT1.out.c0
  have c1 := HT1.out.c1
  have c2 := HT1.out.c2
  have c3 := HT1.out.c3
  have c4 := HT1.out.lt
  go_wp2_with fail
  refine (toAig_any inp al aa ab cl ca cb ls xs bs _ (HC.out _ HB1.out) hl ha hb).mono ?_
  rintro e w2 ⟨bl2, ba2, bb2, rfl, hb2, _, _, _, hc2⟩
  have HB2 : Hid (Below w.heap.size w w2) := belNext HB1.out hb2
  have HT2 : Hid (Four w2 w.heap.size (.int .i64 inp) (.slice al ls.length cl) (.slice aa xs.length ca) (.slice ab bs.length cb)) := HT1.out.below hb2
  have HD2 : Hid (CirAt w2 bl2 ba2 bb2 ls xs bs) := hc2
  clear hb2 hc2 c0 c1 c2 c3 c4
  go_wp2_with fail
  refine (specAigNeeds_any inp _ _ _ _ _ _ ls xs bs lit _ (HD2.out.isCir hl ha hb) HL64.out HX64.out HB64.out).mono ?_
  rintro e w3 ⟨a3, m3, c3', vs, rfl, hm3, hm3l, ho3, hb3, hn3⟩
  have HB3 : Hid (Below w.heap.size w w3) := belNext HB2.out hb3
  have HT3 : Hid (Four w3 w.heap.size (.int .i64 inp) (.slice al ls.length cl) (.slice aa xs.length ca) (.slice ab bs.length cb)) := HT2.out.below hb3
  have HO3 : Hid (Owni w3 w2.heap.size (.slice a3 m3 c3') vs) := ho3
  have HM3 : Hid (vs.length = m3) := hm3
  have HN3 : Hid (IsNeeds inp ls xs bs lit vs) := hn3
  have HVM : Hid (vs.length ≤ maxLen) := by show vs.length ≤ maxLen; unfold maxLen; omega
  have hvl : vs.length ≤ 1000 := by omega
  clear hb3 ho3 hm3 hn3
  have c0 := HT3.out.c0
  have c1 := HT3.out.c1
  have c2 := HT3.out.c2
  have c3 := HT3.out.c3
  have c4 := HT3.out.lt
  go_wp2_with fail
  refine (toAig_any inp al aa ab cl ca cb ls xs bs _ (HC.out _ HB3.out) hl ha hb).mono ?_
  rintro e w4 ⟨bl4, ba4, bb4, rfl, hb4, hle4, hlt4, hlu4, hc4⟩
  have HB4 : Hid (Below w.heap.size w w4) := belNext HB3.out hb4
  have HT4 : Hid (Four w4 w.heap.size (.int .i64 inp) (.slice al ls.length cl) (.slice aa xs.length ca) (.slice ab bs.length cb)) := HT3.out.below hb4
  have HD4 : Hid (CirAt w4 bl4 ba4 bb4 ls xs bs) := hc4
  have HO4 : Hid (Owni w4 w2.heap.size (.slice a3 m3 c3') vs) := HO3.out.below hb4
  clear hb4 hc4 c0 c1 c2 c3 c4
  have hbb4 : bb4 < w4.heap.size := HD4.out.rb.lt
  have HX4 : Hid (Four (w4.alloc (.cells #[.int .i64 inp, .slice (some ⟨bl4, 0, none⟩) ls.length ls.length, .slice (some ⟨ba4, 0, none⟩) xs.length xs.length, .slice (some ⟨bb4, 0, none⟩) bs.length bs.length] 33)) w4.heap.size (.int .i64 inp) (.slice (some ⟨bl4, 0, none⟩) ls.length ls.length) (.slice (some ⟨ba4, 0, none⟩) xs.length xs.length) (.slice (some ⟨bb4, 0, none⟩) bs.length bs.length)) := Four.new _ _ _ _ _ _
  have HB4a : Hid (Below w4.heap.size w4 (w4.alloc (.cells #[.int .i64 inp, .slice (some ⟨bl4, 0, none⟩) ls.length ls.length, .slice (some ⟨ba4, 0, none⟩) xs.length xs.length, .slice (some ⟨bb4, 0, none⟩) bs.length bs.length] 33))) := belOne _ _
  have c0 := HX4.out.c0
  have c1 := HX4.out.c1
  have c2 := HX4.out.c2
  have c3 := HX4.out.c3
  go_wp2_with fail
  refine (implAigNeeds_any inp _ _ _ _ _ _ ls xs bs lit _ ((HD4.out.isCir hl ha hb).below HB4a.out) HX64.out HLI.out).mono ?_
  rintro e w5 ⟨a5, m5, c5, us, rfl, hm5, hm5l, ho5, hb5, hn5⟩
  obtain rfl : us = vs := hn5.uniq HN3.out
  simp only [World.size_alloc] at ho5
  have hb5' := belNext HB4a.out hb5
  have L5 : Hid (Nst w w5 w2.heap.size (w4.heap.size + 1) w4.heap.size bl4 ba4 bb4 inp al aa ab cl ca cb ls xs bs us (.slice a3 m3 c3') (.slice a5 m5 c5)) :=
    ⟨HT4.out.below hb5', HX4.out.below hb5, HD4.out.below hb5', HO4.out.below hb5', ho5, belNext HB4.out hb5'⟩
  have HM5 : Hid (us.length = m5) := hm5
  clear hb5 hb5' ho5 hm5 hn5 c0 c1 c2 c3
  go_wp2_with fail
  refine (eqIntS_same _ _ us _ L5.out.og.isInts L5.out.ow.isInts HVM.out).mono ?_
  rintro e w10 ⟨rfl, n10, hw10⟩
  have L10 : Hid (Nst w w10 w2.heap.size (w4.heap.size + 1) w4.heap.size bl4 ba4 bb4 inp al aa ab cl ca cb ls xs bs us (.slice a3 m3 c3') (.slice a5 m5 c5)) := L5.out.below (by rw [hw10]; exact below_drewN (Below.refl _ _) _)
  clear hw10
  have HGW : Hid (∀ k, (Value.slice a3 m3 c3').ownBlock = some k → k < w3.heap.size) := fun k e => (HO3.out.blk k e).2
  have hs56 : w.heap.size < w3.heap.size := HT3.out.lt
  clear HO3 HO4
  have c0 := L10.out.fa.c0
  have c1 := L10.out.fa.c1
  have c2 := L10.out.fa.c2
  have c3 := L10.out.fa.c3
  have c4 := L10.out.fa.lt
  have x0 := L10.out.fx.c0
  have x1 := L10.out.fx.c1
  have x2 := L10.out.fx.c2
  have x3 := L10.out.fx.c3
  have x4 := L10.out.fx.lt
  go_wp2_with fail
  go_region_held3 (fun w' => w'.cell? ⟨w.heap.size, 0, none⟩ = some (.int .i64 inp) ∧ w'.cell? ⟨w.heap.size, 1, none⟩ = some (.slice al ls.length cl) ∧ w'.cell? ⟨w.heap.size, 2, none⟩ = some (.slice aa xs.length ca) ∧ w'.cell? ⟨w.heap.size, 3, none⟩ = some (.slice ab bs.length cb) ∧ w'.cell? ⟨w4.heap.size, 0, none⟩ = some (.int .i64 inp) ∧ w'.cell? ⟨w4.heap.size, 1, none⟩ = some (.slice (some ⟨bl4, 0, none⟩) ls.length ls.length) ∧ w'.cell? ⟨w4.heap.size, 2, none⟩ = some (.slice (some ⟨ba4, 0, none⟩) xs.length xs.length) ∧ w'.cell? ⟨w4.heap.size, 3, none⟩ = some (.slice (some ⟨bb4, 0, none⟩) bs.length bs.length))
    (first | exact ⟨by assumption, by assumption, by assumption, by assumption, by assumption, by assumption, by assumption, by assumption⟩ | (go_keep; done))
    (first
      | (go_simp; go_at_call 13; refine (toAig_any inp al aa ab cl ca cb ls xs bs _ (HC.out _ (by first | exact L10.out.be | exact L10.out.be.drew)) hl ha hb).mono ?_; rintro e w11 ⟨blq, baq, bbq, rfl, hbz, _, _, _, hcq⟩; have hb11 : Below w10.heap.size w10 w11 := (by first | exact hbz | exact undrew hbz); have L11 : Hid (Nst w w11 w2.heap.size (w4.heap.size + 1) w4.heap.size bl4 ba4 bb4 inp al aa ab cl ca cb ls xs bs us (.slice a3 m3 c3') (.slice a5 m5 c5)) := L10.out.below hb11; have HE11 : Hid (CirAt w11 blq baq bbq ls xs bs) := hcq; have t0 := L11.out.fa.c0; have t1 := L11.out.fa.c1; have t2 := L11.out.fa.c2; have t3 := L11.out.fa.c3; have y0 := L11.out.fx.c0; have y1 := L11.out.fx.c1; have y2 := L11.out.fx.c2; have y3 := L11.out.fx.c3; clear hb11 hbz hcq)
      | (go_simp; go_at_call 17; refine (eqAig_same inp _ _ _ _ _ _ _ _ _ _ _ _ ls xs bs _ (L11.out.cx.isCir hl ha hb) (HE11.out.isCir hl ha hb) hl ha hb).mono ?_; rintro e w12 ⟨rfl, hbz⟩; have L12 : Hid (Nst w w12 w2.heap.size (w4.heap.size + 1) w4.heap.size bl4 ba4 bb4 inp al aa ab cl ca cb ls xs bs us (.slice a3 m3 c3') (.slice a5 m5 c5)) := L11.out.below hbz; have u0 := L12.out.fa.c0; have u1 := L12.out.fa.c1; have u2 := L12.out.fa.c2; have u3 := L12.out.fa.c3; have v0 := L12.out.fx.c0; have v1 := L12.out.fx.c1; have v2 := L12.out.fx.c2; have v3 := L12.out.fx.c3; clear hbz))
  clear c0 c1 c2 c3 c4 x0 x1 x2 x3 x4 t0 t1 t2 t3 y0 y1 y2 y3 u0 u1 u2 u3 v0 v1 v2 v3
  have x0 := L12.out.fx.c0
  have x1 := L12.out.fx.c1
  have x2 := L12.out.fx.c2
  have x3 := L12.out.fx.c3
  have x4 := L12.out.fx.lt
  go_wp2_with fail
  refine (markAig_any inp bl4 ba4 bb4 ls xs bs _ L12.out.cx (by omega) (by omega) (by omega) hl ha hb).mono ?_
  rintro e w17 ⟨⟨q, rfl, hq0, hq1⟩, hch17⟩
  have hin : ∀ k, inCir bl4 ba4 bb4 k → w3.heap.size ≤ k ∧ k < w4.heap.size := fun k hk => by
    unfold inCir at hk
    omega
  have A17 : Hid (Four w17 w.heap.size (.int .i64 inp) (.slice al ls.length cl) (.slice aa xs.length ca) (.slice ab bs.length cb)) := hch17.four L12.out.fa (fun hk => by have := hin _ hk; omega)
  have W17 : Hid (Owni w17 w2.heap.size (.slice a3 m3 c3') us) := L12.out.ow.chg hch17 (fun k e hk => by have h1 := hin _ hk; have h2 := HGW.out k e; omega)
  have G17 : Hid (Owni w17 (w4.heap.size + 1) (.slice a5 m5 c5) us) := L12.out.og.chg hch17 (fun k e hk => by have h1 := hin _ hk; have h2 := (L12.out.og.blk k e).1; omega)
  have B17 : Hid (Below w.heap.size w w17) := Chg.below L12.out.be L12.out.be.size hch17 (fun k hk => by have := hin _ hk; omega)
  clear hch17 hin x0 x1 x2 x3 x4
  have dk : decide (q < 0) = false := by simp; omega
  go_wp2_with fail
  refine (eqIntS_same _ _ us _ G17.out.isInts W17.out.isInts HVM.out).mono ?_
  rintro e w20 ⟨rfl, n20, hw20⟩
  have hb20 : Below w17.heap.size w17 w20 := by rw [hw20]; exact below_drewN (Below.refl _ _) _
  have A20 : Hid (Four w20 w.heap.size (.int .i64 inp) (.slice al ls.length cl) (.slice aa xs.length ca) (.slice ab bs.length cb)) := A17.out.below hb20
  have W20 : Hid (Owni w20 w2.heap.size (.slice a3 m3 c3') us) := W17.out.below hb20
  have G20 : Hid (Owni w20 (w4.heap.size + 1) (.slice a5 m5 c5) us) := G17.out.below hb20
  have B20 : Hid (Below w.heap.size w w20) := belNext B17.out hb20
  clear hw20 hb20
  go_wp2_with fail
  refine (mark_owni _ (w4.heap.size + 1) a5 m5 c5 us G20.out HM5.out hvl).mono ?_
  rintro e w21 ⟨rfl, hbits21, hch21⟩
  have hblk : ∀ k, (Value.slice a5 m5 c5).ownBlock = some k → w4.heap.size + 1 ≤ k := fun k e => (G20.out.blk k e).1
  have A21 : Hid (Four w21 w.heap.size (.int .i64 inp) (.slice al ls.length cl) (.slice aa xs.length ca) (.slice ab bs.length cb)) := hch21.four A20.out (fun hk => by have := hblk _ hk; omega)
  have W21 : Hid (Owni w21 w2.heap.size (.slice a3 m3 c3') us) := W20.out.chg hch21 (fun k e hk => by have h2 := HGW.out k e; have := hblk _ hk; omega)
  have G21 : Hid (IsInts w21 (.slice a5 m5 c5) (markN 1 m5)) := hbits21
  have B21 : Hid (Below w.heap.size w w21) := Chg.below B20.out B20.out.size hch21 (fun k hk => by have := hblk _ hk; omega)
  clear hch21 hbits21 hblk
  go_wp2_with fail
  refine (heldIntS_any _ m5 1 _ G21.out (by omega) (by omega) (by omega)).mono ?_
  rintro e w' ⟨rfl, hw'⟩
  subst hw'
  have c0 := A21.out.c0
  have c1 := A21.out.c1
  have c2 := A21.out.c2
  have c3 := A21.out.c3
  have c4 := A21.out.lt
  go_wp2_with fail
  refine (toAig_any inp al aa ab cl ca cb ls xs bs _ (HC.out _ B21.out) hl ha hb).mono ?_
  rintro e w22 ⟨bl7, ba7, bb7, rfl, hb22, _, _, _, hc22⟩
  have B22 : Hid (Below w.heap.size w w22) := belNext B21.out hb22
  have W22 : Hid (Owni w22 w2.heap.size (.slice a3 m3 c3') us) := W21.out.below hb22
  have G22 : Hid (IsInts w22 (.slice a5 m5 c5) (markN 1 m5)) := G21.out.below hb22
  have D22 : Hid (CirAt w22 bl7 ba7 bb7 ls xs bs) := hc22
  clear hb22 hc22 c0 c1 c2 c3 c4
  go_wp2_with fail
  refine (implAigNeeds_any inp _ _ _ _ _ _ ls xs bs lit _ (D22.out.isCir hl ha hb) HX64.out HLI.out).mono ?_
  rintro e w25 ⟨a25, m25, c25, ts, rfl, hm25, hm25l, ho25, hb25, hn25⟩
  obtain rfl : ts = us := hn25.uniq HN3.out
  have B25 : Hid (Below w.heap.size w w25) := belNext B22.out hb25
  have W25 : Hid (Owni w25 w2.heap.size (.slice a3 m3 c3') ts) := W22.out.below hb25
  have G25 : Hid (IsInts w25 (.slice a5 m5 c5) (markN 1 m5)) := G22.out.below hb25
  have O25 : Hid (Owni w25 w22.heap.size (.slice a25 m25 c25) ts) := ho25
  clear hb25 ho25 hm25 hn25
  go_wp2_with fail
  refine (eqIntS_same _ _ ts _ O25.out.isInts W25.out.isInts HVM.out).mono ?_
  rintro e w26 ⟨rfl, n26, hw26⟩
  have hb26 : Below w25.heap.size w25 w26 := by rw [hw26]; exact below_drewN (Below.refl _ _) _
  have G26 : Hid (IsInts w26 (.slice a5 m5 c5) (markN 1 m5)) := G25.out.below hb26
  have B26 : Hid (Below w.heap.size w w26) := belNext B25.out hb26
  clear hw26 hb26
  go_wp2_with fail
  refine (heldIntS_any _ m5 1 _ G26.out (by omega) (by omega) (by omega)).mono ?_
  rintro e w' ⟨rfl, hw'⟩
  subst hw'
  go_wp2
  go_ret
  exact ⟨rfl, B26.out⟩

set_option maxRecDepth 100000 in
theorem fnExactAigNeeds_lifted (os : Os) (started : os.Started) (H : Type) (enc : TypeId × Value → H) :
    ReturnsInHanded {} Try.checked os 6 .any (Rows.fnExactAigNeedsSpec.pre6 enc Try.prog Try.f6 Rows.fnExactAigNeedsRow.domain false) (Rows.fnExactAigNeedsSpec.post enc Try.prog Try.f6 false true false false) := by
  refine returnsInHanded_of_change (C := Try.checked) own started (by kernel_rfl) Try.func6
    (ChangeSpec.witness6 (enc := enc) (C := Try.checked) false ⟨#[], #[.agg #[.int .i64 0, .slice none 0 0, .slice none 0 0, .slice none 0 0], .int .i64 0], []⟩ 8 (by kernel_rfl) (by kernel_rfl) (by kernel_rfl) (by kernel_rfl)) ?_
  intro W base args ds gs before hval0 hW hcnd _
  have hval : ∀ (j : Nat) t v, Try.f6.params[j]? = some t → args[j]? = some v → Value.okWide Try.prog W .any base t v := hval0
  have hW' := hW
  obtain ⟨p, q, hA0, hV, rfl, hfz, hnd⟩ := hW
  have hA : DataW.TrodAll enc Try.prog W 0 (fun _ => true) true Try.f6.params.toList args.toList ds p := hA0
  rw [Try.params6] at hA hval
  obtain ⟨v0, vs0, d0, ds0, p0, q0, hargs, rfl, rfl, h0, r0⟩ := trodAll_cons hA
  obtain ⟨v1, vs1, d1, ds1, p1, q1, rfl, rfl, rfl, h1, r1⟩ := trodAll_cons r0
  obtain ⟨rfl, rfl, rfl⟩ := trodAll_nil r1
  obtain rfl : args = #[v0, v1] := by cases args; simp_all
  obtain ⟨rfl, rfl⟩ := trodVars_none hV
  have k0 := h0
  have k1 := h1
  have lt0 : ∀ x ∈ p0, x.block < W.heap.size := by obtain ⟨m, hm⟩ := k0; exact DataW.trod_lt m _ _ _ hm
  have lt1 : ∀ x ∈ p1, x.block < W.heap.size := by obtain ⟨m, hm⟩ := k1; exact DataW.trod_lt m _ _ _ hm
  obtain ⟨inp, al, aa, ab, cl, ca, cb, ls, xs, bs, rfl, hC, e1, e2, e3, _⟩ := aig_of_trod (hval 0 26 v0 rfl rfl) h0
  obtain ⟨lit, rfl⟩ := okWide_int Try.underlying3 (hval 1 3 v1 rfl rfl)
  have hli : I64 lit := by
    obtain ⟨fuel1, hf1⟩ := h1
    obtain ⟨y, e0, _, w0⟩ := DataW.trod_int (cs := [.int .i64 lit]) Try.underlying3 (by simpa [Value.cells] using hf1)
    simp at e0
    subst e0
    exact i64_of_wf w0
  clear hA0 hval0
  refine (fnExactAigNeeds_walk inp al aa ab cl ca cb ls xs bs lit W hC e1 e2 e3 hli).mono fun e W' ⟨he, bel⟩ => ?_
  subst he
  exact ⟨_, rfl, _, _, _, [], _, [], hW', trodAll_mk1 (shut_bool Try.underlying4 _),
    (trodAll_cons_mk (Below.trod laidOut (by kernel_rfl) (of_decide_eq_true (by kernel_rfl)) k0 bel lt0) (trodAll_cons_mk (Below.trod laidOut (by kernel_rfl) (of_decide_eq_true (by kernel_rfl)) k1 bel lt1) trodAll_mk0)), rfl, bel.frame _, fun h => by cases h⟩

theorem fnExactAigNeeds_holds : Rows.FnExactAigNeedsSaid :=
  OpenClaim.holds_of_wide 6 Try.f6 rfl rfl rfl rfl rfl rfl rfl ⟨rfl, rfl, rfl, rfl, rfl⟩ rfl rfl rfl rfl rfl (by kernel_rfl) Try.func6 (by kernel_rfl)
    (of_decide_eq_true (by kernel_rfl)) (by unfold Func.isWrapper; first | (rw [if_pos (by decide +kernel)]; kernel_rfl) | (rw [if_neg (by decide +kernel)]; exact ⟨rfl, rfl⟩))
    (fun os started H enc _ => fnExactAigNeeds_lifted os started H enc)

end Go.Proofs.Ytdkpgbmcnjkjkaa
