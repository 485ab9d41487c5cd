/-
  The law FnAigValues (each and is both of what it is of, and the first node never is): a circuit, latches and inputs are drawn from the bytes that come in; the law answers true at every such argument. No condition: every argument that can be read.
-/
import Derived.Test.YtgpilkjnhdcamaaAigV1
import Derived.Deep.RegionHeld3
import Derived.Deep.DeepCutAuto
namespace Go.Proofs.Ytgpilkjnhdcamaa
open Go.ChangeShapes Go.WideShapes Go.ChangeAt Go.RowKit Go.Deep Go.Joins
set_option linter.unusedVariables false

theorem bits_none {w : World} {ao : Option Addr} {n cap : Nat} {ms : List Bool} (h : ms.length = n) (h0 : n = 0) : IsBits w (.slice ao n cap) ms := by
  subst h
  exact ⟨ao, cap, rfl, fun hne => absurd (List.length_eq_zero_iff.1 h0) hne⟩

set_option maxRecDepth 100000 in
set_option maxHeartbeats 16000000 in
theorem fnAigValues_walk (v : Value) (bs : List Int) (w : World) (hv : IsBytes w v bs) (hal : ∀ ao n cap b off, v = .slice ao n cap → ao = some ⟨b, off, none⟩ → b < w.heap.size) (hml : bs.length ≤ maxLen) :
    Calls Try.prog 3 #[v] w fun e w' => e = .returned (.bool true) ∧ Below w.heap.size w w' := by
  unfold maxLen at hml
  have HV0 : Hid (IsBytes w v bs) := hv
  have HAL : Hid (∀ ao n cap b off, v = .slice ao n cap → ao = some ⟨b, off, none⟩ → b < w.heap.size) := hal
  obtain ⟨aoc, capc, rfl, _⟩ := hv
  clear hal
  by_cases hbig : bs.length ≤ 1048576
  · go_enter Try.func3, Try.ntmps3
    go_wp2_with fail
    refine (drawAigValues_any _ bs _ HV0.out hbig HAL.out).mono ?_
    rintro e w0 ⟨inp, al, aa, ab, cl, ca, cb, ls, xs, cs, alt, ain, clt, cin, lats, ins, rfl, hD, hLA, hIN, hl1, hl2⟩
    have hlo := hD.lo
    have hhi := hD.hi
    have hll := hD.ll
    have hla := hD.la
    have hlb := hD.lb
    have L64 : Hid (∀ p ∈ ls, I64 p.1) := hD.l64
    have A64 : Hid (∀ p ∈ xs, I64 p.1 ∧ I64 p.2) := hD.a64
    have B64 : Hid (∀ x ∈ cs, I64 x) := hD.b64
    obtain ⟨W1, hW1⟩ : ∃ W1, W1 = w0.alloc (.cells #[.int .i64 inp, .slice al ls.length cl, .slice aa xs.length ca, .slice ab cs.length cb] 27) := ⟨_, rfl⟩
    have HF1 : Hid (Four W1 w0.heap.size (.int .i64 inp) (.slice al ls.length cl) (.slice aa xs.length ca) (.slice ab cs.length cb)) := by rw [hW1]; exact Four.new _ _ _ _ _ _
    have HBW : Hid (Below w.heap.size w W1) := by rw [hW1]; exact belNext hD.bel (belOne _ _)
    have HV : Hid (∀ w', Below W1.heap.size W1 w' → IsCir w' al aa ab cl ca cb ls xs cs) := fun w' h => by subst hW1; exact hD.cir.below (belNext (belOne _ _) h)
    have HLA : Hid (∀ w', Below W1.heap.size W1 w' → IsBits w' (.slice alt lats.length clt) lats) := fun w' h => by subst hW1; exact hLA.isBits.below (belNext (belOne _ _) h)
    have HIN : Hid (∀ w', Below W1.heap.size W1 w' → IsBits w' (.slice ain ins.length cin) ins) := fun w' h => by subst hW1; exact hIN.isBits.below (belNext (belOne _ _) h)
    have HB1 : Hid (Below W1.heap.size W1 W1) := Below.refl _ _
    have HW1 : Hid (W1 = w0.alloc (.cells #[.int .i64 inp, .slice al ls.length cl, .slice aa xs.length ca, .slice ab cs.length cb] 27)) := hW1
    clear hD hLA hIN hW1
    obtain ⟨vs, hvs⟩ : ∃ vs, valsOf inp ls xs cs lats ins = vs := ⟨_, rfl⟩
    have HVS : Hid (valsOf inp ls xs cs lats ins = vs) := hvs
    have hv100 : vs.length ≤ 100 := by rw [← hvs]; exact valsOf_length _ _ _ _ _ _
    obtain ⟨k, hk⟩ : ∃ k, okC inp ls xs cs = k := ⟨_, rfl⟩
    have HK : Hid (okC inp ls xs cs = k) := hk
    have HKS : Hid (okS inp ls xs cs = k) := by show okS inp ls xs cs = k; rw [← okC_eq L64.out A64.out B64.out]; exact hk
    clear hvs hk
    go_wp2_with fail
    rw [← HW1.out]
    refine (implAigValues_any inp al aa ab cl ca cb ls xs cs alt ain clt cin lats ins _ (HV.out _ HB1.out) (HLA.out _ HB1.out) (HIN.out _ HB1.out) A64.out (by omega) (by omega)).mono ?_
    rintro e w2 ⟨a2, m2, c2, rfl, hm2, ho2, hb2⟩
    rw [HVS.out] at hm2 ho2
    have HO2 : Hid (Ownb w2 W1.heap.size (.slice a2 m2 c2) vs) := ho2
    have HM2 : Hid (vs.length = m2) := hm2
    have hm100 : m2 ≤ 100 := by omega
    have HB2 : Hid (Below W1.heap.size W1 w2) := hb2
    have HF2 : Hid (Four w2 w0.heap.size (.int .i64 inp) (.slice al ls.length cl) (.slice aa xs.length ca) (.slice ab cs.length cb)) := HF1.out.below hb2
    clear hb2 ho2 hm2
    have c20 := HF2.out.c0
    have c21 := HF2.out.c1
    have c22 := HF2.out.c2
    have c23 := HF2.out.c3
    have c24 := HF2.out.lt
    obtain ⟨o, ho⟩ : ∃ o, fitsB inp ls xs cs lats ins = o := ⟨_, rfl⟩
    have HO : Hid (fitsB inp ls xs cs lats ins = o) := ho
    clear ho
    cases o with
    | false =>
      obtain rfl : m2 = 0 := by have h := HVS.out; rw [valsOf_not HO.out] at h; have := HM2.out; rw [← h] at this; simpa using this.symm
      go_wp2_with fail
      go_cut [43] (fun s wc => s = .bool true ∧ Hid (Below W1.heap.size W1 wc) ∧ Hid (Below w2.heap.size w2 wc))
      case first =>
        have HC2 : Hid (Below w2.heap.size w2 w2) := Below.refl _ _
        go_region_held3 (fun w' => w'.cell? ⟨w0.heap.size, 0, none⟩ = some (.int .i64 inp) ∧ w'.cell? ⟨w0.heap.size, 1, none⟩ = some (.slice al ls.length cl) ∧ w'.cell? ⟨w0.heap.size, 2, none⟩ = some (.slice aa xs.length ca) ∧ w'.cell? ⟨w0.heap.size, 3, none⟩ = some (.slice ab cs.length cb) ∧ w0.heap.size < w'.heap.size)
            (first | exact ⟨by assumption, by assumption, by assumption, by assumption, by assumption⟩ | (go_keep; done) | (go_keep; omega))
            (first
              | (go_simp; go_at_call 14; refine (specAigValues_any inp al aa ab cl ca cb ls xs cs alt ain clt cin lats ins _ (HV.out _ (by first | exact HB2.out | exact HB2.out.drew)) (HLA.out _ (by first | exact HB2.out | exact HB2.out.drew)) (HIN.out _ (by first | exact HB2.out | exact HB2.out.drew)) L64.out A64.out B64.out (by omega) (by omega)).mono ?_; rintro e w3 ⟨a3, m3, c3, rfl, hm3, ho3, hbz⟩; rw [HVS.out] at ho3; clear hm3; have HO3 : Hid (IsBits w3 (.slice a3 m3 c3) vs) := ho3.isBits; clear ho3; have HB3 : Hid (Below W1.heap.size W1 w3) := belNext HB2.out (by first | exact hbz | exact undrew hbz); have HC3 : Hid (Below w2.heap.size w2 w3) := belNext HC2.out (by first | exact hbz | exact undrew hbz); have HF3 : Hid (Four w3 w0.heap.size (.int .i64 inp) (.slice al ls.length cl) (.slice aa xs.length ca) (.slice ab cs.length cb)) := HF1.out.below HB3.out; have c30 := HF3.out.c0; have c31 := HF3.out.c1; have c32 := HF3.out.c2; have c33 := HF3.out.c3; have c34 := HF3.out.lt; clear hbz)
              | (go_simp; go_at_call 13; refine (rgBools_below _ _ vs _ (HO2.out.isBits.below HC3.out) HO3.out hv100).mono ?_; rintro e w4 ⟨rfl, hbz⟩; have HB4 : Hid (Below W1.heap.size W1 w4) := belNext HB3.out (by first | exact hbz | exact undrew hbz); have HC4 : Hid (Below w2.heap.size w2 w4) := belNext HC3.out (by first | exact hbz | exact undrew hbz); have HF4 : Hid (Four w4 w0.heap.size (.int .i64 inp) (.slice al ls.length cl) (.slice aa xs.length ca) (.slice ab cs.length cb)) := HF1.out.below HB4.out; have c40 := HF4.out.c0; have c41 := HF4.out.c1; have c42 := HF4.out.c2; have c43 := HF4.out.c3; have c44 := HF4.out.lt; clear hbz)
              | (go_simp; go_at_call 15; refine (implAigOk_any inp al aa ab cl ca cb ls xs cs _ (HV.out _ (by first | exact HB4.out | exact HB4.out.drew))).mono ?_; rintro e w5 ⟨he, hbz⟩; rw [HK.out] at he; subst he; have HB5 : Hid (Below W1.heap.size W1 w5) := belNext HB4.out (by first | exact hbz | exact undrew hbz); have HC5 : Hid (Below w2.heap.size w2 w5) := belNext HC4.out (by first | exact hbz | exact undrew hbz); have HF5 : Hid (Four w5 w0.heap.size (.int .i64 inp) (.slice al ls.length cl) (.slice aa xs.length ca) (.slice ab cs.length cb)) := HF1.out.below HB5.out; have c50 := HF5.out.c0; have c51 := HF5.out.c1; have c52 := HF5.out.c2; have c53 := HF5.out.c3; have c54 := HF5.out.lt; clear hbz)
              | (go_simp; go_at_call 16; refine (specAigOk_any inp al aa ab cl ca cb ls xs cs _ (HV.out _ (by first | exact HB4.out | exact HB4.out.drew))).mono ?_; rintro e w5 ⟨he, hbz⟩; rw [HKS.out] at he; subst he; have HB5 : Hid (Below W1.heap.size W1 w5) := belNext HB4.out (by first | exact hbz | exact undrew hbz); have HC5 : Hid (Below w2.heap.size w2 w5) := belNext HC4.out (by first | exact hbz | exact undrew hbz); have HF5 : Hid (Four w5 w0.heap.size (.int .i64 inp) (.slice al ls.length cl) (.slice aa xs.length ca) (.slice ab cs.length cb)) := HF1.out.below HB5.out; have c50 := HF5.out.c0; have c51 := HF5.out.c1; have c52 := HF5.out.c2; have c53 := HF5.out.c3; have c54 := HF5.out.lt; clear hbz)
              | (go_simp; go_at_call 15; refine (implAigOk_any inp al aa ab cl ca cb ls xs cs _ (HV.out _ (by first | exact HB5.out | exact HB5.out.drew))).mono ?_; rintro e w6 ⟨he, hbz⟩; rw [HK.out] at he; subst he; have HB6 : Hid (Below W1.heap.size W1 w6) := belNext HB5.out (by first | exact hbz | exact undrew hbz); have HC6 : Hid (Below w2.heap.size w2 w6) := belNext HC5.out (by first | exact hbz | exact undrew hbz); have HF6 : Hid (Four w6 w0.heap.size (.int .i64 inp) (.slice al ls.length cl) (.slice aa xs.length ca) (.slice ab cs.length cb)) := HF1.out.below HB6.out; have c60 := HF6.out.c0; have c61 := HF6.out.c1; have c62 := HF6.out.c2; have c63 := HF6.out.c3; have c64 := HF6.out.lt; clear hbz)
              | (go_simp; go_at_call 16; refine (specAigOk_any inp al aa ab cl ca cb ls xs cs _ (HV.out _ (by first | exact HB5.out | exact HB5.out.drew))).mono ?_; rintro e w6 ⟨he, hbz⟩; rw [HKS.out] at he; subst he; have HB6 : Hid (Below W1.heap.size W1 w6) := belNext HB5.out (by first | exact hbz | exact undrew hbz); have HC6 : Hid (Below w2.heap.size w2 w6) := belNext HC5.out (by first | exact hbz | exact undrew hbz); have HF6 : Hid (Four w6 w0.heap.size (.int .i64 inp) (.slice al ls.length cl) (.slice aa xs.length ca) (.slice ab cs.length cb)) := HF1.out.below HB6.out; have c60 := HF6.out.c0; have c61 := HF6.out.c1; have c62 := HF6.out.c2; have c63 := HF6.out.c3; have c64 := HF6.out.lt; clear hbz))
        all_goals
          go_wp2_with fail
          go_meet
          case rel => exact ⟨rfl, HB6, HC6⟩
      case rest =>
        rename World => w6
        obtain ⟨rfl, HB6, HC6⟩ := hcut
        have HF6 : Hid (Four w6 w0.heap.size (.int .i64 inp) (.slice al ls.length cl) (.slice aa xs.length ca) (.slice ab cs.length cb)) := HF1.out.below HB6.out
        clear c20 c21 c22 c23 c24
        have c60 := HF6.out.c0
        have c61 := HF6.out.c1
        have c62 := HF6.out.c2
        have c63 := HF6.out.c3
        have c64 := HF6.out.lt
        go_wp2_with fail
        go_region_held3 (fun w' => w'.cell? ⟨w0.heap.size, 0, none⟩ = some (.int .i64 inp) ∧ w'.cell? ⟨w0.heap.size, 1, none⟩ = some (.slice al ls.length cl) ∧ w'.cell? ⟨w0.heap.size, 2, none⟩ = some (.slice aa xs.length ca) ∧ w'.cell? ⟨w0.heap.size, 3, none⟩ = some (.slice ab cs.length cb) ∧ w0.heap.size < w'.heap.size)
            (first | exact ⟨by assumption, by assumption, by assumption, by assumption, by assumption⟩ | (go_keep; done) | (go_keep; omega))
            (first
              | (go_simp; go_at_call 14; refine (specAigValues_any inp al aa ab cl ca cb ls xs cs alt ain clt cin lats ins _ (HV.out _ (by first | exact HB6.out | exact HB6.out.drew)) (HLA.out _ (by first | exact HB6.out | exact HB6.out.drew)) (HIN.out _ (by first | exact HB6.out | exact HB6.out.drew)) L64.out A64.out B64.out (by omega) (by omega)).mono ?_; rintro e w7 ⟨a3, m3, c3, rfl, hm3, ho3, hbz⟩; rw [HVS.out] at ho3; clear hm3; have HO3 : Hid (IsBits w7 (.slice a3 m3 c3) vs) := ho3.isBits; clear ho3; have HB7 : Hid (Below W1.heap.size W1 w7) := belNext HB6.out (by first | exact hbz | exact undrew hbz); have HC7 : Hid (Below w2.heap.size w2 w7) := belNext HC6.out (by first | exact hbz | exact undrew hbz); have HF7 : Hid (Four w7 w0.heap.size (.int .i64 inp) (.slice al ls.length cl) (.slice aa xs.length ca) (.slice ab cs.length cb)) := HF1.out.below HB7.out; have c70 := HF7.out.c0; have c71 := HF7.out.c1; have c72 := HF7.out.c2; have c73 := HF7.out.c3; have c74 := HF7.out.lt; clear hbz)
              | (go_simp; go_at_call 13; refine (rgBools_below _ _ vs _ (HO2.out.isBits.below HC7.out) HO3.out hv100).mono ?_; rintro e w8 ⟨rfl, hbz⟩; have HB8 : Hid (Below W1.heap.size W1 w8) := belNext HB7.out (by first | exact hbz | exact undrew hbz); have HC8 : Hid (Below w2.heap.size w2 w8) := belNext HC7.out (by first | exact hbz | exact undrew hbz); have HF8 : Hid (Four w8 w0.heap.size (.int .i64 inp) (.slice al ls.length cl) (.slice aa xs.length ca) (.slice ab cs.length cb)) := HF1.out.below HB8.out; have c80 := HF8.out.c0; have c81 := HF8.out.c1; have c82 := HF8.out.c2; have c83 := HF8.out.c3; have c84 := HF8.out.lt; clear hbz)
              | (go_simp; go_at_call 15; refine (implAigOk_any inp al aa ab cl ca cb ls xs cs _ (HV.out _ (by first | exact HB8.out | exact HB8.out.drew))).mono ?_; rintro e w9 ⟨he, hbz⟩; rw [HK.out] at he; subst he; have HB9 : Hid (Below W1.heap.size W1 w9) := belNext HB8.out (by first | exact hbz | exact undrew hbz); have HC9 : Hid (Below w2.heap.size w2 w9) := belNext HC8.out (by first | exact hbz | exact undrew hbz); have HF9 : Hid (Four w9 w0.heap.size (.int .i64 inp) (.slice al ls.length cl) (.slice aa xs.length ca) (.slice ab cs.length cb)) := HF1.out.below HB9.out; have c90 := HF9.out.c0; have c91 := HF9.out.c1; have c92 := HF9.out.c2; have c93 := HF9.out.c3; have c94 := HF9.out.lt; clear hbz)
              | (go_simp; go_at_call 16; refine (specAigOk_any inp al aa ab cl ca cb ls xs cs _ (HV.out _ (by first | exact HB8.out | exact HB8.out.drew))).mono ?_; rintro e w9 ⟨he, hbz⟩; rw [HKS.out] at he; subst he; have HB9 : Hid (Below W1.heap.size W1 w9) := belNext HB8.out (by first | exact hbz | exact undrew hbz); have HC9 : Hid (Below w2.heap.size w2 w9) := belNext HC8.out (by first | exact hbz | exact undrew hbz); have HF9 : Hid (Four w9 w0.heap.size (.int .i64 inp) (.slice al ls.length cl) (.slice aa xs.length ca) (.slice ab cs.length cb)) := HF1.out.below HB9.out; have c90 := HF9.out.c0; have c91 := HF9.out.c1; have c92 := HF9.out.c2; have c93 := HF9.out.c3; have c94 := HF9.out.lt; clear hbz)
              | (go_simp; go_at_call 15; refine (implAigOk_any inp al aa ab cl ca cb ls xs cs _ (HV.out _ (by first | exact HB9.out | exact HB9.out.drew))).mono ?_; rintro e w10 ⟨he, hbz⟩; rw [HK.out] at he; subst he; have HB10 : Hid (Below W1.heap.size W1 w10) := belNext HB9.out (by first | exact hbz | exact undrew hbz); have HC10 : Hid (Below w2.heap.size w2 w10) := belNext HC9.out (by first | exact hbz | exact undrew hbz); have HF10 : Hid (Four w10 w0.heap.size (.int .i64 inp) (.slice al ls.length cl) (.slice aa xs.length ca) (.slice ab cs.length cb)) := HF1.out.below HB10.out; have c100 := HF10.out.c0; have c101 := HF10.out.c1; have c102 := HF10.out.c2; have c103 := HF10.out.c3; have c104 := HF10.out.lt; clear hbz)
              | (go_simp; go_at_call 16; refine (specAigOk_any inp al aa ab cl ca cb ls xs cs _ (HV.out _ (by first | exact HB9.out | exact HB9.out.drew))).mono ?_; rintro e w10 ⟨he, hbz⟩; rw [HKS.out] at he; subst he; have HB10 : Hid (Below W1.heap.size W1 w10) := belNext HB9.out (by first | exact hbz | exact undrew hbz); have HC10 : Hid (Below w2.heap.size w2 w10) := belNext HC9.out (by first | exact hbz | exact undrew hbz); have HF10 : Hid (Four w10 w0.heap.size (.int .i64 inp) (.slice al ls.length cl) (.slice aa xs.length ca) (.slice ab cs.length cb)) := HF1.out.below HB10.out; have c100 := HF10.out.c0; have c101 := HF10.out.c1; have c102 := HF10.out.c2; have c103 := HF10.out.c3; have c104 := HF10.out.lt; clear hbz))
        all_goals
          go_wp2
          go_ret
          exact ⟨rfl, HBW.out.trans (HB10.out.mono HBW.out.size)⟩
    | true =>
      obtain ⟨e1, e2, e3⟩ := fitsB_iff.1 HO.out
      obtain ⟨hi0, hi8, _, hx40, _⟩ := sizes_ok e1
      have HLEN : Hid (m2 = 1 + ins.length + lats.length + xs.length) := by
        show m2 = 1 + ins.length + lats.length + xs.length
        rw [← HM2.out, ← HVS.out, valsOf_fits HO.out, valF_length _ _ _ (Nat.le_refl _), start_length]
      have hmz : ((m2 : Int) == 0) = false := by have := HLEN.out; simp; omega
      have HLL : Hid (lats.length = ls.length) := e2
      have HIL : Hid ((ins.length : Int) = inp) := e3
      clear e1 e2 e3
      go_wp2_with fail
      go_cut [43] (fun s wc => s = .bool false ∧ Hid (Below W1.heap.size W1 wc) ∧ Hid (Below w2.heap.size w2 wc))
      case first =>
        have HC2 : Hid (Below w2.heap.size w2 w2) := Below.refl _ _
        go_region_held3 (fun w' => w'.cell? ⟨w0.heap.size, 0, none⟩ = some (.int .i64 inp) ∧ w'.cell? ⟨w0.heap.size, 1, none⟩ = some (.slice al ls.length cl) ∧ w'.cell? ⟨w0.heap.size, 2, none⟩ = some (.slice aa xs.length ca) ∧ w'.cell? ⟨w0.heap.size, 3, none⟩ = some (.slice ab cs.length cb) ∧ w0.heap.size < w'.heap.size)
            (first | exact ⟨by assumption, by assumption, by assumption, by assumption, by assumption⟩ | (go_keep; done) | (go_keep; omega))
            (first
              | (go_simp; go_at_call 14; refine (specAigValues_any inp al aa ab cl ca cb ls xs cs alt ain clt cin lats ins _ (HV.out _ (by first | exact HB2.out | exact HB2.out.drew)) (HLA.out _ (by first | exact HB2.out | exact HB2.out.drew)) (HIN.out _ (by first | exact HB2.out | exact HB2.out.drew)) L64.out A64.out B64.out (by omega) (by omega)).mono ?_; rintro e w3 ⟨a3, m3, c3, rfl, hm3, ho3, hbz⟩; rw [HVS.out] at ho3; clear hm3; have HO3 : Hid (IsBits w3 (.slice a3 m3 c3) vs) := ho3.isBits; clear ho3; have HB3 : Hid (Below W1.heap.size W1 w3) := belNext HB2.out (by first | exact hbz | exact undrew hbz); have HC3 : Hid (Below w2.heap.size w2 w3) := belNext HC2.out (by first | exact hbz | exact undrew hbz); have HF3 : Hid (Four w3 w0.heap.size (.int .i64 inp) (.slice al ls.length cl) (.slice aa xs.length ca) (.slice ab cs.length cb)) := HF1.out.below HB3.out; have c30 := HF3.out.c0; have c31 := HF3.out.c1; have c32 := HF3.out.c2; have c33 := HF3.out.c3; have c34 := HF3.out.lt; clear hbz)
              | (go_simp; go_at_call 13; refine (rgBools_below _ _ vs _ (HO2.out.isBits.below HC3.out) HO3.out hv100).mono ?_; rintro e w4 ⟨rfl, hbz⟩; have HB4 : Hid (Below W1.heap.size W1 w4) := belNext HB3.out (by first | exact hbz | exact undrew hbz); have HC4 : Hid (Below w2.heap.size w2 w4) := belNext HC3.out (by first | exact hbz | exact undrew hbz); have HF4 : Hid (Four w4 w0.heap.size (.int .i64 inp) (.slice al ls.length cl) (.slice aa xs.length ca) (.slice ab cs.length cb)) := HF1.out.below HB4.out; have c40 := HF4.out.c0; have c41 := HF4.out.c1; have c42 := HF4.out.c2; have c43 := HF4.out.c3; have c44 := HF4.out.lt; clear hbz)
              | (go_simp; go_at_call 15; refine (implAigOk_any inp al aa ab cl ca cb ls xs cs _ (HV.out _ (by first | exact HB4.out | exact HB4.out.drew))).mono ?_; rintro e w5 ⟨he, hbz⟩; rw [HK.out] at he; subst he; have HB5 : Hid (Below W1.heap.size W1 w5) := belNext HB4.out (by first | exact hbz | exact undrew hbz); have HC5 : Hid (Below w2.heap.size w2 w5) := belNext HC4.out (by first | exact hbz | exact undrew hbz); have HF5 : Hid (Four w5 w0.heap.size (.int .i64 inp) (.slice al ls.length cl) (.slice aa xs.length ca) (.slice ab cs.length cb)) := HF1.out.below HB5.out; have c50 := HF5.out.c0; have c51 := HF5.out.c1; have c52 := HF5.out.c2; have c53 := HF5.out.c3; have c54 := HF5.out.lt; clear hbz)
              | (go_simp; go_at_call 16; refine (specAigOk_any inp al aa ab cl ca cb ls xs cs _ (HV.out _ (by first | exact HB4.out | exact HB4.out.drew))).mono ?_; rintro e w5 ⟨he, hbz⟩; rw [HKS.out] at he; subst he; have HB5 : Hid (Below W1.heap.size W1 w5) := belNext HB4.out (by first | exact hbz | exact undrew hbz); have HC5 : Hid (Below w2.heap.size w2 w5) := belNext HC4.out (by first | exact hbz | exact undrew hbz); have HF5 : Hid (Four w5 w0.heap.size (.int .i64 inp) (.slice al ls.length cl) (.slice aa xs.length ca) (.slice ab cs.length cb)) := HF1.out.below HB5.out; have c50 := HF5.out.c0; have c51 := HF5.out.c1; have c52 := HF5.out.c2; have c53 := HF5.out.c3; have c54 := HF5.out.lt; clear hbz)
              | (go_simp; go_at_call 15; refine (implAigOk_any inp al aa ab cl ca cb ls xs cs _ (HV.out _ (by first | exact HB5.out | exact HB5.out.drew))).mono ?_; rintro e w6 ⟨he, hbz⟩; rw [HK.out] at he; subst he; have HB6 : Hid (Below W1.heap.size W1 w6) := belNext HB5.out (by first | exact hbz | exact undrew hbz); have HC6 : Hid (Below w2.heap.size w2 w6) := belNext HC5.out (by first | exact hbz | exact undrew hbz); have HF6 : Hid (Four w6 w0.heap.size (.int .i64 inp) (.slice al ls.length cl) (.slice aa xs.length ca) (.slice ab cs.length cb)) := HF1.out.below HB6.out; have c60 := HF6.out.c0; have c61 := HF6.out.c1; have c62 := HF6.out.c2; have c63 := HF6.out.c3; have c64 := HF6.out.lt; clear hbz)
              | (go_simp; go_at_call 16; refine (specAigOk_any inp al aa ab cl ca cb ls xs cs _ (HV.out _ (by first | exact HB5.out | exact HB5.out.drew))).mono ?_; rintro e w6 ⟨he, hbz⟩; rw [HKS.out] at he; subst he; have HB6 : Hid (Below W1.heap.size W1 w6) := belNext HB5.out (by first | exact hbz | exact undrew hbz); have HC6 : Hid (Below w2.heap.size w2 w6) := belNext HC5.out (by first | exact hbz | exact undrew hbz); have HF6 : Hid (Four w6 w0.heap.size (.int .i64 inp) (.slice al ls.length cl) (.slice aa xs.length ca) (.slice ab cs.length cb)) := HF1.out.below HB6.out; have c60 := HF6.out.c0; have c61 := HF6.out.c1; have c62 := HF6.out.c2; have c63 := HF6.out.c3; have c64 := HF6.out.lt; clear hbz))
        all_goals
          go_wp2_with fail
          go_meet
          case rel => exact ⟨rfl, HB6, HC6⟩
      case rest =>
        rename World => w6
        obtain ⟨rfl, HB6, HC6⟩ := hcut
        have HF6 : Hid (Four w6 w0.heap.size (.int .i64 inp) (.slice al ls.length cl) (.slice aa xs.length ca) (.slice ab cs.length cb)) := HF1.out.below HB6.out
        clear c20 c21 c22 c23 c24
        have c60 := HF6.out.c0
        have c61 := HF6.out.c1
        have c62 := HF6.out.c2
        obtain ⟨g, cg, hg2, _, hglt⟩ := HO2.out.cons_form (by have := HM2.out; have := HLEN.out; omega)
        have HGC : Hid (∀ i, i < vs.length → w2.cell? ⟨g, i, none⟩ = some (.bool (vs.getD i false))) := fun i hi => by
          obtain ⟨ao, cap, he, h⟩ := HO2.out.isBits
          obtain ⟨b, off, ha, hc⟩ := h (by intro e; subst e; simp at hi)
          rw [hg2] at he
          injection he with e1 e2 e3
          rw [ha] at e1
          have := hc i hi
          cases e1
          simpa using this
        have HCAP : Hid (m2 ≤ c2) := by
          rcases HO2.out.2 with ⟨h3, h4⟩ | ⟨g1, c1, cur1, h3, _, hh1, h5, _⟩
          · have := HM2.out; have := HLEN.out; omega
          · injection h3 with e1 e2 e3
            show m2 ≤ c2
            rw [e2, e3]; exact h5
        have e2a : a2 = some ⟨g, 0, none⟩ := by injection hg2
        subst e2a
        clear hg2
        go_wp2_with fail
        go_loopw [8] (fun i wr => ∃ q : Nat, q ≤ xs.length ∧ i = .int .i64 q ∧ Below W1.heap.size W1 wr ∧ Below w2.heap.size w2 wr) (fun i _ => xs.length - (intOf i).toNat)
        case atStart => exact ⟨0, Nat.zero_le _, rfl, HB6.out, HC6.out⟩
        case round =>
          rename World => wg
          obtain ⟨q, hq, rfl, hbr, hcr⟩ := hrel
          have HBR : Hid (Below W1.heap.size W1 wg) := hbr
          have HCR : Hid (Below w2.heap.size w2 wg) := hcr
          have HFR : Hid (Four wg w0.heap.size (.int .i64 inp) (.slice al ls.length cl) (.slice aa xs.length ca) (.slice ab cs.length cb)) := HF1.out.below hbr
          have HCI : Hid (IsCir wg al aa ab cl ca cb ls xs cs) := HV.out _ hbr
          clear hbr hcr c60 c61 c62
          have d0 := HFR.out.c0
          have d1 := HFR.out.c1
          have d2 := HFR.out.c2
          have d4 := HFR.out.lt
          have hgg : g < wg.heap.size := Nat.lt_of_lt_of_le hglt HCR.out.size
          by_cases hlt : q < xs.length
          · obtain ⟨b, off, hao, hcs⟩ : ∃ b off, aa = some ⟨b, off, none⟩ ∧ ∀ i, i < xs.length → wg.cell? ⟨b, off + i * 2, none⟩ = some (.int .i64 (xs.getD i (0, 0)).1) ∧ wg.cell? ⟨b, off + i * 2 + 1, none⟩ = some (.int .i64 (xs.getD i (0, 0)).2) := by
              obtain ⟨ao', cap', he, h⟩ := HCI.out.isA
              obtain ⟨b, off, ha, hc⟩ := h (by intro e; subst e; simp at hlt)
              injection he with e1 e2 e3
              exact ⟨b, off, e1.trans ha, hc⟩
            subst hao
            obtain ⟨hc1, hc2⟩ := hcs q hlt
            obtain ⟨p0, p1, p2, p3, p4⟩ := and_parts HO.out A64.out hlt
            rw [HVS.out] at p4
            clear hcs
            generalize xs.getD q (0, 0) = pq at *
            obtain ⟨xa, xb⟩ := pq
            simp only at p0 p1 p2 p3 p4 hc1 hc2
            obtain ⟨ka, ra, hka, hra0, hra1⟩ : ∃ (ka : Nat) (ra : Int), xa = 2 * (ka : Int) + ra ∧ 0 ≤ ra ∧ ra ≤ 1 := ⟨(xa / 2).toNat, xa % 2, by omega, by omega, by omega⟩
            obtain ⟨kb, rb, hkb, hrb0, hrb1⟩ : ∃ (kb : Nat) (rb : Int), xb = 2 * (kb : Int) + rb ∧ 0 ≤ rb ∧ rb ≤ 1 := ⟨(xb / 2).toNat, xb % 2, by omega, by omega, by omega⟩
            have hma : ka < m2 := by have := HLEN.out; omega
            have hmb : kb < m2 := by have := HLEN.out; omega
            have hmc : 1 + ins.length + lats.length + q < m2 := by have := HLEN.out; omega
            have va := (HCR.out.cell (p := ⟨g, ka, none⟩) hglt).trans (HGC.out ka (by rw [HM2.out]; exact hma))
            have vb := (HCR.out.cell (p := ⟨g, kb, none⟩) hglt).trans (HGC.out kb (by rw [HM2.out]; exact hmb))
            have vc := (HCR.out.cell (p := ⟨g, 1 + ins.length + lats.length + q, none⟩) hglt).trans (HGC.out (1 + ins.length + lats.length + q) (by rw [HM2.out]; exact hmc))
            have la : litV vs xa = (vs.getD ka false != (ra == 1)) := by
              unfold litV
              rw [show xa / 2 = (ka : Int) by omega, show xa % 2 = ra by omega, Int.toNat_natCast]
              congr 1
            have lb : litV vs xb = (vs.getD kb false != (rb == 1)) := by
              unfold litV
              rw [show xb / 2 = (kb : Int) by omega, show xb % 2 = rb by omega, Int.toNat_natCast]
              congr 1
            rw [p4, la, lb] at vc
            have hin : inp = (ins.length : Int) := HIL.out.symm
            rw [HLL.out] at vc hmc
            have hqa : xa.tdiv 2 = (ka : Int) := by rw [Int.tdiv_eq_ediv_of_nonneg (by omega)]; omega
            have hqb : xb.tdiv 2 = (kb : Int) := by rw [Int.tdiv_eq_ediv_of_nonneg (by omega)]; omega
            have hwa : IntKind.i64.wrap (ka : Int) = (ka : Int) := by rw [IntKind.wrap_i64]; omega
            have hwb : IntKind.i64.wrap (kb : Int) = (kb : Int) := by rw [IntKind.wrap_i64]; omega
            have hta : xa.tmod 2 = ra := by rw [Int.tmod_eq_emod_of_nonneg (by omega)]; omega
            have htb : xb.tmod 2 = rb := by rw [Int.tmod_eq_emod_of_nonneg (by omega)]; omega
            have haa : xa / 2 = (ka : Int) := by omega
            have hbb : xb / 2 = (kb : Int) := by omega
            have ham : xa % 2 = ra := by omega
            have hbm : xb % 2 = rb := by omega
            have HKA : Hid (xa = 2 * (ka : Int) + ra) := hka
            have HKB : Hid (xb = 2 * (kb : Int) + rb) := hkb
            clear p0 p1 p2 p3 p4 la lb hka hkb
            generalize vs.getD ka false = ma at *
            generalize vs.getD kb false = mb at *
            generalize hgA : (ra == 1) = ga at *
            generalize hgB : (rb == 1) = gb at *
            obtain ⟨P, hP⟩ : ∃ P, (ma == ga) = P := ⟨_, rfl⟩
            obtain ⟨U, hU⟩ : ∃ U, (mb == gb) = U := ⟨_, rfl⟩
            rw [bne, bne, hP, hU] at vc
            obtain rfl : inp = (ins.length : Int) := hin
            clear d0 d1
            have HVC : Hid (wg.cell? ⟨g, 1 + ins.length + ls.length + q, none⟩ = some (.bool (!P && !U))) := vc
            clear vc
            go_wp2_with fail
            go_quiet (fail)
            go_wp2_with fail
            go_quiet (fail)
            have vc := HVC.out
            clear va vb hc1 hc2
            cases P <;> cases U
            all_goals
              simp only [Bool.not_true, Bool.not_false, Bool.and_self, Bool.and_true, Bool.and_false] at vc
              go_wp2_with fail
              go_roundw
              case rel => exact ⟨q + 1, by omega, by go_num, belNext HBR.out (below_drewN (belOne _ _) _), belNext HCR.out (below_drewN (belOne _ _) _)⟩
              case measure => simp [intOf]; omega
          · obtain rfl : q = xs.length := by omega
            have hin : inp = (ins.length : Int) := HIL.out.symm
            have hmm : ((m2 : Int) == 1 + (ins.length : Int) + (ls.length : Int) + (xs.length : Int)) = true := by have := HLEN.out; have := HLL.out; simp; omega
            have hm1 : 1 + ins.length + ls.length + xs.length ≤ m2 := by have := HLEN.out; have := HLL.out; omega
            have hm3 : 1 + ins.length + lats.length + xs.length ≤ m2 := by have := HLEN.out; omega
            have hcc : m2 ≤ c2 := HCAP.out
            have HGW : Hid (∀ i, i < vs.length → wg.cell? ⟨g, i, none⟩ = some (.bool (vs.getD i false))) := fun i hi => (HCR.out.cell (p := ⟨g, i, none⟩) hglt).trans (HGC.out i hi)
            have HVL : Hid (vs = valF (startOf ins lats) xs xs.length) := by show vs = _; rw [← HVS.out, valsOf_fits HO.out]
            have v0 : wg.cell? ⟨g, 0, none⟩ = some (.bool false) := by
              have h := HGW.out 0 (by rw [HM2.out]; omega)
              rw [HVL.out, valF_start _ _ _ (by rw [start_length]; omega), start_zero] at h
              exact h
            have HPI : Hid (∀ cap, IsBits wg (.slice (some ⟨g, 1, none⟩) ins.length cap) ins) := fun cap => bits_piece HGW.out (by rw [HM2.out]; omega) (fun i hi => by rw [HVL.out, valF_start _ _ _ (by rw [start_length]; omega), start_in _ _ _ hi])
            have HPL : Hid (∀ cap, IsBits wg (.slice (some ⟨g, 1 + ins.length, none⟩) ls.length cap) lats) := fun cap => by rw [← HLL.out]; exact bits_piece HGW.out (by rw [HM2.out]; omega) (fun i hi => by rw [HVL.out, valF_start _ _ _ (by rw [start_length]; omega), start_lat _ _ _ hi])
            clear hm3
            obtain rfl : inp = (ins.length : Int) := hin
            go_wp2_with fail
            all_goals
              refine (rgBools_below _ _ ins _ (by first | exact HPI.out _ | exact bits_none rfl (by omega)) (HIN.out _ HBR.out) hl2).mono ?_
              rintro e w7 ⟨rfl, hb7⟩
              have HB7 : Hid (Below W1.heap.size W1 w7) := belNext HBR.out hb7
              have HPL7 : Hid (∀ cap, IsBits w7 (.slice (some ⟨g, 1 + ins.length, none⟩) ls.length cap) lats) := fun cap => (HPL.out cap).below hb7
              have HF7 := hideD (HF1.out.below HB7.out)
              clear hb7 d0 d1 d2 d4
              have c70 := HF7.out.c0
              have c71 := HF7.out.c1
              have c72 := HF7.out.c2
              have c74 := HF7.out.lt
              go_wp2_with fail
              all_goals
                refine (rgBools_below _ _ lats _ (by first | exact HPL7.out _ | exact bits_none HLL.out (by omega)) (HLA.out _ HB7.out) hl1).mono ?_
                rintro e w8 ⟨rfl, hb8⟩
                have HB8 : Hid (Below W1.heap.size W1 w8) := belNext HB7.out hb8
                have HF8 := hideD (HF1.out.below HB8.out)
                clear hb8 c70 c71 c72 c74
                have c80 := HF8.out.c0
                have c81 := HF8.out.c1
                have c82 := HF8.out.c2
                have c84 := HF8.out.lt
                go_wp2
                go_ret
                exact ⟨rfl, HBW.out.trans (HB8.out.mono HBW.out.size)⟩
  · go_enter Try.func3, Try.ntmps3
    go_wp2
    go_ret
    exact ⟨rfl, Below.refl _ _⟩

set_option maxRecDepth 100000 in
theorem fnAigValues_lifted (os : Os) (started : os.Started) (H : Type) (enc : TypeId × Value → H) :
    ReturnsInHanded {} Try.checked os 3 .any (Rows.fnAigValuesSpec.pre6 enc Try.prog Try.f3 Rows.fnAigValuesRow.domain false) (Rows.fnAigValuesSpec.post enc Try.prog Try.f3 false true false false) := by
  refine returnsInHanded_of_change (C := Try.checked) own started (by kernel_rfl) Try.func3
    (ChangeSpec.witness6 (enc := enc) (C := Try.checked) false ⟨#[], #[.slice none 0 0], []⟩ 8 (by kernel_rfl) (by kernel_rfl) (by kernel_rfl) (by kernel_rfl)) ?_
  intro W base args ds gs before hval0 hW hcnd _
  have hval : ∀ (j : Nat) t v, Try.f3.params[j]? = some t → args[j]? = some v → Value.okWide Try.prog W .any base t v := hval0
  have hW' := hW
  obtain ⟨p, q, hA0, hV, rfl, hfz, hnd⟩ := hW
  have hA : DataW.TrodAll enc Try.prog W 0 (fun _ => true) true Try.f3.params.toList args.toList ds p := hA0
  rw [Try.params3] at hA hval
  obtain ⟨v0, vs0, d0, ds0, p0, q0, hargs, rfl, rfl, h0, r0⟩ := trodAll_cons hA
  obtain ⟨rfl, rfl, rfl⟩ := trodAll_nil r0
  obtain rfl : args = #[v0] := by cases args; simp_all
  obtain ⟨rfl, rfl⟩ := trodVars_none hV
  have k0 := h0
  have lt0 : ∀ x ∈ p0, x.block < W.heap.size := by obtain ⟨m, hm⟩ := k0; exact DataW.trod_lt m _ _ _ hm
  have hv0 := hval 0 22 v0 rfl rfl
  obtain ⟨ao, len, cap, rfl⟩ := okWide_slice Try.underlying22 hv0
  obtain ⟨fuel, hf⟩ := h0
  obtain ⟨bs, hbs, hml⟩ := isBytes_of_trod (by simpa [Value.cells] using hf)
  clear hA0 hval0
  refine (fnAigValues_walk _ bs W hbs (fun ao' n' cap' b off h1 h2 => by cases h1; subst h2; exact okWide_slice_lt Try.underlying22 hv0) hml).mono fun e W' ⟨he, bel⟩ => ?_
  subst he
  exact ⟨_, rfl, _, _, _, [], _, [], hW', trodAll_mk1 (shut_bool Try.underlying4 _), (trodAll_cons_mk (Below.trod laidOut (by kernel_rfl) (of_decide_eq_true (by kernel_rfl)) k0 bel lt0) trodAll_mk0), rfl, bel.frame _, fun h => by cases h⟩

theorem fnAigValues_holds : Rows.FnAigValuesSaid :=
  OpenClaim.holds_of_wide 3 Try.f3 rfl rfl rfl rfl rfl rfl rfl ⟨rfl, rfl, rfl, rfl, rfl⟩ rfl rfl rfl rfl rfl (by kernel_rfl) Try.func3 (by kernel_rfl)
    (of_decide_eq_true (by kernel_rfl)) (by unfold Func.isWrapper; first | (rw [if_pos (by decide +kernel)]; kernel_rfl) | (rw [if_neg (by decide +kernel)]; exact ⟨rfl, rfl⟩))
    (fun os started H enc _ => fnAigValues_lifted os started H enc)

end Go.Proofs.Ytgpilkjnhdcamaa
