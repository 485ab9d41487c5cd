/-
  The law FnAigStep (what is kept next, and what is bad, is as the nodes say): a circuit, latches and inputs are drawn from the bytes that come in; the law answers true at every such argument. No condition: every argument that can be read.
-/
import Derived.Test.YtgpilkjnhdcamaaAigS1
import Derived.Test.YtgpilkjnhdcamaaAigP
import Derived.Deep.RegionHeld3
import Derived.Deep.DeepCutAuto
namespace Go.Proofs.Ytgpilkjnhdcamaa
open Go.ChangeShapes Go.WideShapes Go.ChangeAt Go.RowKit Go.Deep Go.Joins
set_option linter.unusedVariables false

/-- A row's cells, behind more. -/
theorem own_cells {w w' : World} {base g m cap : Nat} {vs : List Bool} (h : Ownb w base (.slice (some ⟨g, 0, none⟩) m cap) vs) (hb : Below w.heap.size w w') : ∀ i, i < vs.length → w'.cell? ⟨g, i, none⟩ = some (.bool (vs.getD i false)) := fun i hi => by
  obtain ⟨ao, cap', he, hh⟩ := (h.below hb).isBits
  obtain ⟨b, off, ha, hc⟩ := hh (by intro e; subst e; simp at hi)
  injection he with e1 e2 e3
  rw [ha] at e1
  have := hc i hi
  cases e1
  simpa using this

set_option maxRecDepth 100000 in
set_option maxHeartbeats 16000000 in
theorem fnAigStep_walk (v : Value) (bs : List Int) (w : World) (hv : IsBytes w v bs) (hal : ∀ ao n cap b off, v = .slice ao n cap → ao = some ⟨b, off, none⟩ → b < w.heap.size) (hml : bs.length ≤ maxLen) :
    Calls Try.prog 4 #[v] w fun e w' => e = .returned (.bool true) ∧ Below w.heap.size w w' := by
  unfold maxLen at hml
  have HV0 : Hid (IsBytes w v bs) := hv
  have HAL : Hid (∀ ao n cap b off, v = .slice ao n cap → ao = some ⟨b, off, none⟩ → b < w.heap.size) := hal
  obtain ⟨aoc, capc, rfl, _⟩ := hv
  clear hal
  by_cases hbig : bs.length ≤ 1048576
  · go_enter Try.func4, Try.ntmps4
    go_wp2_with fail
    refine (drawAigStep_any _ bs _ HV0.out hbig HAL.out).mono ?_
    rintro e w0 ⟨inp, al, aa, ab, cl, ca, cb, ls, xs, cs, alt, ain, clt, cin, lats, ins, rfl, hD, hLA, hIN, hl1, hl2⟩
    have hlo := hD.lo
    have hhi := hD.hi
    have hll := hD.ll
    have hla := hD.la
    have hlb := hD.lb
    have L64 : Hid (∀ p ∈ ls, I64 p.1) := hD.l64
    have A64 : Hid (∀ p ∈ xs, I64 p.1 ∧ I64 p.2) := hD.a64
    have B64 : Hid (∀ x ∈ cs, I64 x) := hD.b64
    obtain ⟨W1, hW1⟩ : ∃ W1, W1 = w0.alloc (.cells #[.int .i64 inp, .slice al ls.length cl, .slice aa xs.length ca, .slice ab cs.length cb] 27) := ⟨_, rfl⟩
    have HF1 : Hid (Four W1 w0.heap.size (.int .i64 inp) (.slice al ls.length cl) (.slice aa xs.length ca) (.slice ab cs.length cb)) := by rw [hW1]; exact Four.new _ _ _ _ _ _
    have HBW : Hid (Below w.heap.size w W1) := by rw [hW1]; exact belNext hD.bel (belOne _ _)
    have HV : Hid (∀ w', Below W1.heap.size W1 w' → IsCir w' al aa ab cl ca cb ls xs cs) := fun w' h => by subst hW1; exact hD.cir.below (belNext (belOne _ _) h)
    have HLA : Hid (∀ w', Below W1.heap.size W1 w' → IsBits w' (.slice alt lats.length clt) lats) := fun w' h => by subst hW1; exact hLA.isBits.below (belNext (belOne _ _) h)
    have HIN : Hid (∀ w', Below W1.heap.size W1 w' → IsBits w' (.slice ain ins.length cin) ins) := fun w' h => by subst hW1; exact hIN.isBits.below (belNext (belOne _ _) h)
    have HB1 : Hid (Below W1.heap.size W1 W1) := Below.refl _ _
    have HW1 : Hid (W1 = w0.alloc (.cells #[.int .i64 inp, .slice al ls.length cl, .slice aa xs.length ca, .slice ab cs.length cb] 27)) := hW1
    clear hD hLA hIN hW1
    obtain ⟨vs, hvs⟩ : ∃ vs, valsOf inp ls xs cs lats ins = vs := ⟨_, rfl⟩
    obtain ⟨nx, hnx⟩ : ∃ nx, nextOf inp ls xs cs lats ins = nx := ⟨_, rfl⟩
    obtain ⟨bd, hbd⟩ : ∃ bd, badOf inp ls xs cs lats ins = bd := ⟨_, rfl⟩
    have HVS : Hid (valsOf inp ls xs cs lats ins = vs) := hvs
    have HNX : Hid (nextOf inp ls xs cs lats ins = nx) := hnx
    have HBD : Hid (badOf inp ls xs cs lats ins = bd) := hbd
    have hv100 : vs.length ≤ 100 := by rw [← hvs]; exact valsOf_length _ _ _ _ _ _
    have hx100 : nx.length ≤ 100 := by rw [← hnx]; exact nextOf_length _ _ _ _ _ _
    have hd100 : bd.length ≤ 100 := by rw [← hbd]; exact badOf_length _ _ _ _ _ _
    clear hvs hnx hbd
    go_wp2_with fail
    rw [← HW1.out]
    refine (implAigStep_any inp al aa ab cl ca cb ls xs cs alt ain clt cin lats ins _ (HV.out _ HB1.out) (HLA.out _ HB1.out) (HIN.out _ HB1.out) L64.out A64.out B64.out (by omega) (by omega)).mono ?_
    rintro e w2 ⟨a1, m1, c1, a2, m2, c2, n2, rfl, hm1, hm2, _, ho1, _, ho2, hb2⟩
    rw [HNX.out] at hm1 ho1
    rw [HBD.out] at hm2 ho2
    have HM1 : Hid (nx.length = m1) := hm1
    have HM2 : Hid (bd.length = m2) := hm2
    have hm1' : m1 ≤ 100 := by omega
    have hm2' : m2 ≤ 100 := by omega
    have HO1 : Hid (Ownb w2 W1.heap.size (.slice a1 m1 c1) nx) := ho1
    have HO2 : Hid (Ownb w2 n2 (.slice a2 m2 c2) bd) := ho2
    have HB2 : Hid (Below W1.heap.size W1 w2) := hb2
    have HF2 := hideD (HF1.out.below hb2)
    clear hb2 ho1 ho2 hm1 hm2
    have c20 := HF2.out.c0
    have c21 := HF2.out.c1
    have c22 := HF2.out.c2
    have c23 := HF2.out.c3
    have c24 := HF2.out.lt
    go_wp2_with fail
    refine (specAigStep_any inp al aa ab cl ca cb ls xs cs alt ain clt cin lats ins _ (HV.out _ HB2.out) (HLA.out _ HB2.out) (HIN.out _ HB2.out) L64.out A64.out B64.out (by omega) (by omega)).mono ?_
    rintro e w3 ⟨a3, m3, c3, a4, m4, c4, n4, rfl, _, _, _, ho3, _, ho4, hb3⟩
    rw [HNX.out] at ho3
    rw [HBD.out] at ho4
    have HO3 : Hid (IsBits w3 (.slice a3 m3 c3) nx) := ho3.isBits
    have HO4 : Hid (IsBits w3 (.slice a4 m4 c4) bd) := ho4.isBits
    have HB3 : Hid (Below W1.heap.size W1 w3) := belNext HB2.out hb3
    have HC3 : Hid (Below w2.heap.size w2 w3) := hb3
    have HF3 := hideD (HF1.out.below HB3.out)
    clear hb3 ho3 ho4 c20 c21 c22 c23 c24
    have c30 := HF3.out.c0
    have c31 := HF3.out.c1
    have c32 := HF3.out.c2
    have c33 := HF3.out.c3
    have c34 := HF3.out.lt
    go_wp2_with fail
    refine (implAigValues_any inp al aa ab cl ca cb ls xs cs alt ain clt cin lats ins _ (HV.out _ HB3.out) (HLA.out _ HB3.out) (HIN.out _ HB3.out) A64.out (by omega) (by omega)).mono ?_
    rintro e w4 ⟨a5, m5, c5, rfl, hm5, ho5, hb4⟩
    rw [HVS.out] at hm5 ho5
    have HM5 : Hid (vs.length = m5) := hm5
    have hm5' : m5 ≤ 100 := by omega
    have HO5 : Hid (Ownb w4 w3.heap.size (.slice a5 m5 c5) vs) := ho5
    have HB4 : Hid (Below W1.heap.size W1 w4) := belNext HB3.out hb4
    have HC4 : Hid (Below w2.heap.size w2 w4) := belNext HC3.out hb4
    have HO34 : Hid (IsBits w4 (.slice a3 m3 c3) nx) := HO3.out.below hb4
    have HO44 : Hid (IsBits w4 (.slice a4 m4 c4) bd) := HO4.out.below hb4
    clear hb4 ho5 hm5 c30 c31 c32 c33 c34
    go_wp2_with fail
    refine (rgBools_below _ _ nx _ (HO1.out.isBits.below HC4.out) HO34.out hx100).mono ?_
    rintro e w5 ⟨rfl, hb5⟩
    have HB5 : Hid (Below W1.heap.size W1 w5) := belNext HB4.out hb5
    have HC5 : Hid (Below w2.heap.size w2 w5) := belNext HC4.out hb5
    have HD5 : Hid (Below w4.heap.size w4 w5) := hb5
    clear hb5
    obtain ⟨o, ho⟩ : ∃ o, fitsB inp ls xs cs lats ins = o := ⟨_, rfl⟩
    have HO : Hid (fitsB inp ls xs cs lats ins = o) := ho
    clear ho
    go_wp2_with fail
    refine (rgBools_below _ _ bd _ (HO2.out.isBits.below HC5.out) (HO44.out.below HD5.out) hd100).mono ?_
    rintro e w6 ⟨rfl, hb6⟩
    have HB6 : Hid (Below W1.heap.size W1 w6) := belNext HB5.out hb6
    have HC6 : Hid (Below w2.heap.size w2 w6) := belNext HC5.out hb6
    have HD6 : Hid (Below w4.heap.size w4 w6) := belNext HD5.out hb6
    clear hb6
    cases o with
    | false =>
      obtain rfl : m5 = 0 := by have h := HVS.out; rw [valsOf_not HO.out] at h; have := HM5.out; rw [← h] at this; simpa using this.symm
      go_wp2_with fail
      refine (rgBools_below _ _ nx _ (HO1.out.isBits.below HC6.out) (HO34.out.below HD6.out) hx100).mono ?_
      rintro e w7 ⟨rfl, hb7⟩
      have HB7 : Hid (Below W1.heap.size W1 w7) := belNext HB6.out hb7
      have HC7 : Hid (Below w2.heap.size w2 w7) := belNext HC6.out hb7
      have HD7 : Hid (Below w4.heap.size w4 w7) := belNext HD6.out hb7
      clear hb7
      go_wp2_with fail
      refine (rgBools_below _ _ bd _ (HO2.out.isBits.below HC7.out) (HO44.out.below HD7.out) hd100).mono ?_
      rintro e w8 ⟨rfl, hb8⟩
      have HB8 : Hid (Below W1.heap.size W1 w8) := belNext HB7.out hb8
      clear hb8
      go_wp2
      go_ret
      exact ⟨rfl, HBW.out.trans (HB8.out.mono HBW.out.size)⟩
    | true =>
      have HVL : Hid ((m5 : Int) = 1 + inp + ls.length + xs.length) := by have h := vals_len HO.out; rw [HVS.out, HM5.out] at h; exact h
      obtain ⟨e1, _, _⟩ := fitsB_iff.1 HO.out
      obtain ⟨hi0, hi8, _, hx40, _⟩ := sizes_ok e1
      clear e1
      have hm5z : ((m5 : Int) == 0) = false := by have := HVL.out; simp; omega
      have hpos5 : 0 < vs.length := by have := HVL.out; have := HM5.out; omega
      have HN1 : Hid (m1 = ls.length) := by have h := nextOf_len HO.out; rw [HNX.out, HM1.out] at h; exact h
      have HN2 : Hid (m2 = cs.length) := by have h := badOf_len HO.out; rw [HBD.out, HM2.out] at h; exact h
      obtain ⟨g5, cg5, hg5, _, hg5l⟩ := HO5.out.cons_form hpos5
      have e5a : a5 = some ⟨g5, 0, none⟩ := by injection hg5
      subst e5a
      clear hg5
      have HV5 : Hid (∀ w', Below w4.heap.size w4 w' → ∀ i, i < vs.length → w'.cell? ⟨g5, i, none⟩ = some (.bool (vs.getD i false))) := fun w' h => own_cells HO5.out h
      go_wp2_with fail
      go_loopw [11] (fun i wr => ∃ q : Nat, q ≤ ls.length ∧ i = .int .i64 q ∧ Below W1.heap.size W1 wr ∧ Below w2.heap.size w2 wr ∧ Below w4.heap.size w4 wr) (fun i _ => ls.length - (intOf i).toNat)
      case atStart => exact ⟨0, Nat.zero_le _, rfl, HB6.out, HC6.out, HD6.out⟩
      case round =>
        rename World => wg
        obtain ⟨q, hq, rfl, hbr, hcr, hdr⟩ := hrel
        have HBR : Hid (Below W1.heap.size W1 wg) := hbr
        have HCR : Hid (Below w2.heap.size w2 wg) := hcr
        have HDR : Hid (Below w4.heap.size w4 wg) := hdr
        have HFR : Hid (Four wg w0.heap.size (.int .i64 inp) (.slice al ls.length cl) (.slice aa xs.length ca) (.slice ab cs.length cb)) := HF1.out.below hbr
        have HCI : Hid (IsCir wg al aa ab cl ca cb ls xs cs) := HV.out _ hbr
        clear hbr hcr hdr
        by_cases hlt : q < ls.length
        · have d1 := HFR.out.c1
          have d4 := HFR.out.lt
          obtain ⟨b, off, hao, hcs⟩ : ∃ b off, al = some ⟨b, off, none⟩ ∧ ∀ i, i < ls.length → wg.cell? ⟨b, off + i * 2, none⟩ = some (.int .i64 (ls.getD i (0, false)).1) ∧ wg.cell? ⟨b, off + i * 2 + 1, none⟩ = some (.bool (ls.getD i (0, false)).2) := by
            obtain ⟨ao', cap', he, h⟩ := HCI.out.isL
            obtain ⟨b, off, ha, hc⟩ := h (by intro e; subst e; simp at hlt)
            injection he with e1 e2 e3
            exact ⟨b, off, e1.trans ha, hc⟩
          subst hao
          obtain ⟨hc1, _⟩ := hcs q hlt
          clear hcs
          have hnl : nx.length = ls.length := HM1.out.trans HN1.out
          obtain ⟨g1, cg1, hg1, _, hg1l⟩ := HO1.out.cons_form (by omega)
          have e1a : a1 = some ⟨g1, 0, none⟩ := by injection hg1
          subst e1a
          have n1 := own_cells HO1.out HCR.out q (by omega)
          have hng := next_get HO.out hlt
          rw [HNX.out, HVS.out] at hng
          obtain ⟨p0, p1⟩ := next_in HO.out L64.out hlt
          rw [HVS.out] at p1
          rw [hng] at n1
          have hq1 : q < m1 := by have := HN1.out; omega
          clear hng hg1
          generalize (ls.getD q (0, false)).1 = x at *
          obtain ⟨k, r, t1, t2, t3, t4, t5, hk, hr0, hr1, hx, hlit⟩ := lit_parts vs x p0 p1 hv100
          have vk := HV5.out _ HDR.out k hk
          rw [hlit] at n1
          have hk5 : k < m5 := by rw [← HM5.out]; exact hk
          have HX : Hid (x = 2 * (k : Int) + r) := hx
          clear p0 p1 hx hlit hk hnl
          generalize vs.getD k false = mv at *
          generalize hG : (r == 1) = g at *
          generalize hE : (mv == g) = E at *
          go_wp2_with fail
          go_quiet (fail)
          cases E
          all_goals
            go_wp2_with fail
            go_roundw
            case rel => exact ⟨q + 1, by omega, by go_num, below_drewN HBR.out _, below_drewN HCR.out _, below_drewN HDR.out _⟩
            case measure => simp [intOf]; omega
        · obtain rfl : q = ls.length := by omega
          have d1 := HFR.out.c1
          have d4 := HFR.out.lt
          go_wp2_with fail
          clear d1 d4
          go_loopw [12] (fun i wr => ∃ q : Nat, q ≤ cs.length ∧ i = .int .i64 q ∧ Below W1.heap.size W1 wr ∧ Below w2.heap.size w2 wr ∧ Below w4.heap.size w4 wr) (fun i _ => cs.length - (intOf i).toNat)
          case atStart => exact ⟨0, Nat.zero_le _, rfl, HBR.out, HCR.out, HDR.out⟩
          case round =>
            rename World => wh
            obtain ⟨u, hu, rfl, hbr, hcr, hdr⟩ := hrel
            have HBS : Hid (Below W1.heap.size W1 wh) := hbr
            have HCS : Hid (Below w2.heap.size w2 wh) := hcr
            have HDS : Hid (Below w4.heap.size w4 wh) := hdr
            have HFS : Hid (Four wh w0.heap.size (.int .i64 inp) (.slice al ls.length cl) (.slice aa xs.length ca) (.slice ab cs.length cb)) := HF1.out.below hbr
            have HCJ : Hid (IsCir wh al aa ab cl ca cb ls xs cs) := HV.out _ hbr
            clear hbr hcr hdr
            have d1 := HFS.out.c1
            have d3 := HFS.out.c3
            have d4 := HFS.out.lt
            by_cases hlt : u < cs.length
            · obtain ⟨b, off, hao, hcs⟩ : ∃ b off, ab = some ⟨b, off, none⟩ ∧ ∀ i, i < cs.length → wh.cell? ⟨b, off + i, none⟩ = some (.int .i64 (cs.getD i 0)) := by
                obtain ⟨ao', cap', he, h⟩ := HCJ.out.isB
                obtain ⟨b, off, ha, hc⟩ := h (by intro e; subst e; simp at hlt)
                injection he with e1 e2 e3
                exact ⟨b, off, e1.trans ha, hc⟩
              subst hao
              have hc1 := hcs u hlt
              clear hcs
              have hnl : bd.length = cs.length := HM2.out.trans HN2.out
              obtain ⟨g1, cg1, hg1, _, hg1l⟩ := HO2.out.cons_form (by omega)
              have e1a : a2 = some ⟨g1, 0, none⟩ := by injection hg1
              subst e1a
              have n1 := own_cells HO2.out HCS.out u (by omega)
              have hng := bad_get HO.out hlt
              rw [HBD.out, HVS.out] at hng
              obtain ⟨p0, p1⟩ := bad_in HO.out B64.out hlt
              rw [HVS.out] at p1
              rw [hng] at n1
              have hq1 : u < m2 := by have := HN2.out; omega
              clear hng hg1
              generalize cs.getD u 0 = x at *
              obtain ⟨k, r, t1, t2, t3, t4, t5, hk, hr0, hr1, hx, hlit⟩ := lit_parts vs x p0 p1 hv100
              have vk := HV5.out _ HDS.out k hk
              rw [hlit] at n1
              have hk5 : k < m5 := by rw [← HM5.out]; exact hk
              have HX : Hid (x = 2 * (k : Int) + r) := hx
              clear p0 p1 hx hlit hk hnl d1
              generalize vs.getD k false = mv at *
              generalize hG : (r == 1) = g at *
              generalize hE : (mv == g) = E at *
              go_wp2_with fail
              go_quiet (fail)
              cases E
              all_goals
                go_wp2_with fail
                go_roundw
                case rel => exact ⟨u + 1, by omega, by go_num, below_drewN HBS.out _, below_drewN HCS.out _, below_drewN HDS.out _⟩
                case measure => simp [intOf]; omega
            · obtain rfl : u = cs.length := by omega
              have b1 : ((m1 : Int) == (ls.length : Int)) = true := by rw [HN1.out]; simp
              have b2 : ((m2 : Int) == (cs.length : Int)) = true := by rw [HN2.out]; simp
              go_wp2
              go_ret
              exact ⟨rfl, HBW.out.trans (HBS.out.mono HBW.out.size)⟩
  · go_enter Try.func4, Try.ntmps4
    go_wp2
    go_ret
    exact ⟨rfl, Below.refl _ _⟩

set_option maxRecDepth 100000 in
theorem fnAigStep_lifted (os : Os) (started : os.Started) (H : Type) (enc : TypeId × Value → H) :
    ReturnsInHanded {} Try.checked os 4 .any (Rows.fnAigStepSpec.pre6 enc Try.prog Try.f4 Rows.fnAigStepRow.domain false) (Rows.fnAigStepSpec.post enc Try.prog Try.f4 false true false false) := by
  refine returnsInHanded_of_change (C := Try.checked) own started (by kernel_rfl) Try.func4
    (ChangeSpec.witness6 (enc := enc) (C := Try.checked) false ⟨#[], #[.slice none 0 0], []⟩ 8 (by kernel_rfl) (by kernel_rfl) (by kernel_rfl) (by kernel_rfl)) ?_
  intro W base args ds gs before hval0 hW hcnd _
  have hval : ∀ (j : Nat) t v, Try.f4.params[j]? = some t → args[j]? = some v → Value.okWide Try.prog W .any base t v := hval0
  have hW' := hW
  obtain ⟨p, q, hA0, hV, rfl, hfz, hnd⟩ := hW
  have hA : DataW.TrodAll enc Try.prog W 0 (fun _ => true) true Try.f4.params.toList args.toList ds p := hA0
  rw [Try.params4] at hA hval
  obtain ⟨v0, vs0, d0, ds0, p0, q0, hargs, rfl, rfl, h0, r0⟩ := trodAll_cons hA
  obtain ⟨rfl, rfl, rfl⟩ := trodAll_nil r0
  obtain rfl : args = #[v0] := by cases args; simp_all
  obtain ⟨rfl, rfl⟩ := trodVars_none hV
  have k0 := h0
  have lt0 : ∀ x ∈ p0, x.block < W.heap.size := by obtain ⟨m, hm⟩ := k0; exact DataW.trod_lt m _ _ _ hm
  have hv0 := hval 0 22 v0 rfl rfl
  obtain ⟨ao, len, cap, rfl⟩ := okWide_slice Try.underlying22 hv0
  obtain ⟨fuel, hf⟩ := h0
  obtain ⟨bs, hbs, hml⟩ := isBytes_of_trod (by simpa [Value.cells] using hf)
  clear hA0 hval0
  refine (fnAigStep_walk _ bs W hbs (fun ao' n' cap' b off h1 h2 => by cases h1; subst h2; exact okWide_slice_lt Try.underlying22 hv0) hml).mono fun e W' ⟨he, bel⟩ => ?_
  subst he
  exact ⟨_, rfl, _, _, _, [], _, [], hW', trodAll_mk1 (shut_bool Try.underlying4 _), (trodAll_cons_mk (Below.trod laidOut (by kernel_rfl) (of_decide_eq_true (by kernel_rfl)) k0 bel lt0) trodAll_mk0), rfl, bel.frame _, fun h => by cases h⟩

theorem fnAigStep_holds : Rows.FnAigStepSaid :=
  OpenClaim.holds_of_wide 4 Try.f4 rfl rfl rfl rfl rfl rfl rfl ⟨rfl, rfl, rfl, rfl, rfl⟩ rfl rfl rfl rfl rfl (by kernel_rfl) Try.func4 (by kernel_rfl)
    (of_decide_eq_true (by kernel_rfl)) (by unfold Func.isWrapper; first | (rw [if_pos (by decide +kernel)]; kernel_rfl) | (rw [if_neg (by decide +kernel)]; exact ⟨rfl, rfl⟩))
    (fun os started H enc _ => fnAigStep_lifted os started H enc)

end Go.Proofs.Ytgpilkjnhdcamaa
