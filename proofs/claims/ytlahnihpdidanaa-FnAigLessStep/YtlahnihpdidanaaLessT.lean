/-
  The law FnAigLessStep (a circuit without what is needless keeps, and finds bad, the same in each step): a circuit, latches and inputs are drawn from the bytes that come in; the law answers true at every such argument. No condition: every argument that can be read.
-/
import Derived.Test.YtlahnihpdidanaaAigS1
import Derived.Test.YtlahnihpdidanaaLessS
import Derived.Test.YtlahnihpdidanaaLess16
import Derived.Deep.RegionHeld3
import Derived.Deep.DeepCutAuto
namespace Go.Proofs.Ytlahnihpdidanaa
open Go.ChangeShapes Go.WideShapes Go.ChangeAt Go.RowKit Go.Deep Go.Joins
set_option linter.unusedVariables false

set_option maxRecDepth 100000 in
set_option maxHeartbeats 16000000 in
theorem fnAigLessStep_walk (v : Value) (bs : List Int) (w : World) (hv : IsBytes w v bs) (hal : ∀ ao n cap b off, v = .slice ao n cap → ao = some ⟨b, off, none⟩ → b < w.heap.size) (hml : bs.length ≤ maxLen) :
    Calls Try.prog 10 #[v] w fun e w' => e = .returned (.bool true) ∧ Below w.heap.size w w' := by
  unfold maxLen at hml
  have HV0 : Hid (IsBytes w v bs) := hv
  have HAL : Hid (∀ ao n cap b off, v = .slice ao n cap → ao = some ⟨b, off, none⟩ → b < w.heap.size) := hal
  obtain ⟨aoc, capc, rfl, _⟩ := hv
  clear hal
  by_cases hbig : bs.length ≤ 1048576
  · go_enter Try.func10, Try.ntmps10
    go_wp2_with fail
    refine (drawAigStep_any _ bs _ HV0.out hbig HAL.out).mono ?_
    rintro e w0 ⟨inp, al, aa, ab, cl, ca, cb, ls, xs, cs, alt, ain, clt, cin, lats, ins, rfl, hD, hLA, hIN, hl1, hl2⟩
    have hlo := hD.lo
    have hhi := hD.hi
    have hll := hD.ll
    have hla := hD.la
    have hlb := hD.lb
    have L64 : Hid (∀ p ∈ ls, I64 p.1) := hD.l64
    have A64 : Hid (∀ p ∈ xs, I64 p.1 ∧ I64 p.2) := hD.a64
    have B64 : Hid (∀ x ∈ cs, I64 x) := hD.b64
    obtain ⟨W1, hW1⟩ : ∃ W1, W1 = w0.alloc (.cells #[.int .i64 inp, .slice al ls.length cl, .slice aa xs.length ca, .slice ab cs.length cb] 33) := ⟨_, rfl⟩
    have HF1 : Hid (Four W1 w0.heap.size (.int .i64 inp) (.slice al ls.length cl) (.slice aa xs.length ca) (.slice ab cs.length cb)) := by rw [hW1]; exact Four.new _ _ _ _ _ _
    have HBW : Hid (Below w.heap.size w W1) := by rw [hW1]; exact belNext hD.bel (belOne _ _)
    have HV : Hid (∀ w', Below W1.heap.size W1 w' → IsCir w' al aa ab cl ca cb ls xs cs) := fun w' h => by subst hW1; exact hD.cir.below (belNext (belOne _ _) h)
    have HLA : Hid (∀ w', Below W1.heap.size W1 w' → IsBits w' (.slice alt lats.length clt) lats) := fun w' h => by subst hW1; exact hLA.isBits.below (belNext (belOne _ _) h)
    have HIN : Hid (∀ w', Below W1.heap.size W1 w' → IsBits w' (.slice ain ins.length cin) ins) := fun w' h => by subst hW1; exact hIN.isBits.below (belNext (belOne _ _) h)
    have HB1 : Hid (Below W1.heap.size W1 W1) := Below.refl _ _
    have HW1 : Hid (W1 = w0.alloc (.cells #[.int .i64 inp, .slice al ls.length cl, .slice aa xs.length ca, .slice ab cs.length cb] 33)) := hW1
    clear hD hLA hIN hW1
    obtain ⟨vs, hvs⟩ : ∃ vs, valsOf inp ls xs cs lats ins = vs := ⟨_, rfl⟩
    obtain ⟨nx, hnx⟩ : ∃ nx, nextOf inp ls xs cs lats ins = nx := ⟨_, rfl⟩
    obtain ⟨bd, hbd⟩ : ∃ bd, badOf inp ls xs cs lats ins = bd := ⟨_, rfl⟩
    have HVS : Hid (valsOf inp ls xs cs lats ins = vs) := hvs
    have HNX : Hid (nextOf inp ls xs cs lats ins = nx) := hnx
    have HBD : Hid (badOf inp ls xs cs lats ins = bd) := hbd
    have hv100 : vs.length ≤ 100 := by rw [← hvs]; exact valsOf_length _ _ _ _ _ _
    have hx100 : nx.length ≤ 100 := by rw [← hnx]; exact nextOf_length _ _ _ _ _ _
    have hd100 : bd.length ≤ 100 := by rw [← hbd]; exact badOf_length _ _ _ _ _ _
    clear hvs hnx hbd
    go_wp2_with fail
    rw [← HW1.out]
    refine (implAigStep_any inp al aa ab cl ca cb ls xs cs alt ain clt cin lats ins _ (HV.out _ HB1.out) (HLA.out _ HB1.out) (HIN.out _ HB1.out) L64.out A64.out B64.out (by omega) (by omega)).mono ?_
    rintro e w2 ⟨a1, m1, c1, a2, m2, c2, n2, rfl, hm1, hm2, _, ho1, _, ho2, hb2⟩
    rw [HNX.out] at hm1 ho1
    rw [HBD.out] at hm2 ho2
    have HM1 : Hid (nx.length = m1) := hm1
    have HM2 : Hid (bd.length = m2) := hm2
    have hm1' : m1 ≤ 100 := by omega
    have hm2' : m2 ≤ 100 := by omega
    have HO1 : Hid (Ownb w2 W1.heap.size (.slice a1 m1 c1) nx) := ho1
    have HO2 : Hid (Ownb w2 n2 (.slice a2 m2 c2) bd) := ho2
    have HB2 : Hid (Below W1.heap.size W1 w2) := hb2
    have HF2 := hideD (HF1.out.below hb2)
    clear hb2 ho1 ho2 hm1 hm2
    have c20 := HF2.out.c0
    have c21 := HF2.out.c1
    have c22 := HF2.out.c2
    have c23 := HF2.out.c3
    have c24 := HF2.out.lt
    go_wp2_with fail
    refine (specAigStep_any inp al aa ab cl ca cb ls xs cs alt ain clt cin lats ins _ (HV.out _ HB2.out) (HLA.out _ HB2.out) (HIN.out _ HB2.out) L64.out A64.out B64.out (by omega) (by omega)).mono ?_
    rintro e w3 ⟨a3, m3, c3, a4, m4, c4, n4, rfl, _, _, _, ho3, _, ho4, hb3⟩
    rw [HNX.out] at ho3
    rw [HBD.out] at ho4
    have HO3 : Hid (IsBits w3 (.slice a3 m3 c3) nx) := ho3.isBits
    have HO4 : Hid (IsBits w3 (.slice a4 m4 c4) bd) := ho4.isBits
    have HB3 : Hid (Below W1.heap.size W1 w3) := belNext HB2.out hb3
    have HC3 : Hid (Below w2.heap.size w2 w3) := hb3
    have HF3 := hideD (HF1.out.below HB3.out)
    clear hb3 ho3 ho4 c20 c21 c22 c23 c24
    have c30 := HF3.out.c0
    have c31 := HF3.out.c1
    have c32 := HF3.out.c2
    have c33 := HF3.out.c3
    have c34 := HF3.out.lt
    go_wp2_with fail
    refine (rgBools_below _ _ nx _ (HO1.out.isBits.below HC3.out) HO3.out hx100).mono ?_
    rintro e w4 ⟨rfl, hb4⟩
    have HB4 : Hid (Below W1.heap.size W1 w4) := belNext HB3.out hb4
    have HC4 : Hid (Below w2.heap.size w2 w4) := belNext HC3.out hb4
    have HD4 : Hid (Below w3.heap.size w3 w4) := hb4
    clear hb4
    obtain ⟨o, ho⟩ : ∃ o, fitsB inp ls xs cs lats ins = o := ⟨_, rfl⟩
    have HO : Hid (fitsB inp ls xs cs lats ins = o) := ho
    clear ho c30 c31 c32 c33 c34
    go_wp2_with fail
    refine (rgBools_below _ _ bd _ (HO2.out.isBits.below HC4.out) (HO4.out.below HD4.out) hd100).mono ?_
    rintro e w5 ⟨rfl, hb5⟩
    have HB5 : Hid (Below W1.heap.size W1 w5) := belNext HB4.out hb5
    have HC5 : Hid (Below w2.heap.size w2 w5) := belNext HC4.out hb5
    have HD5 : Hid (Below w3.heap.size w3 w5) := belNext HD4.out hb5
    clear hb5
    have HF5 := hideD (HF1.out.below HB5.out)
    have c30 := HF5.out.c0
    have c31 := HF5.out.c1
    have c32 := HF5.out.c2
    have c33 := HF5.out.c3
    have c34 := HF5.out.lt
    go_wp2_with fail
    refine (implAigValues_any inp al aa ab cl ca cb ls xs cs alt ain clt cin lats ins _ (HV.out _ HB5.out) (HLA.out _ HB5.out) (HIN.out _ HB5.out) A64.out (by omega) (by omega)).mono ?_
    rintro e w6 ⟨a5, m5, c5, rfl, hm5, ho5, hb6⟩
    rw [HVS.out] at hm5 ho5
    have HM5 : Hid (vs.length = m5) := hm5
    have hm5' : m5 ≤ 100 := by omega
    have HB6 : Hid (Below W1.heap.size W1 w6) := belNext HB5.out hb6
    have HC6 : Hid (Below w2.heap.size w2 w6) := belNext HC5.out hb6
    have HD6 : Hid (Below w3.heap.size w3 w6) := belNext HD5.out hb6
    clear hb6 ho5 hm5 c30 c31 c32 c33 c34
    cases o with
    | false =>
      obtain rfl : m5 = 0 := by have h := HVS.out; rw [valsOf_not HO.out] at h; have := HM5.out; rw [← h] at this; simpa using this.symm
      go_wp2_with fail
      refine (rgBools_below _ _ nx _ (HO1.out.isBits.below HC6.out) (HO3.out.below HD6.out) hx100).mono ?_
      rintro e w7 ⟨rfl, hb7⟩
      have HB7 : Hid (Below W1.heap.size W1 w7) := belNext HB6.out hb7
      have HC7 : Hid (Below w2.heap.size w2 w7) := belNext HC6.out hb7
      have HD7 : Hid (Below w3.heap.size w3 w7) := belNext HD6.out hb7
      clear hb7
      go_wp2_with fail
      refine (rgBools_below _ _ bd _ (HO2.out.isBits.below HC7.out) (HO4.out.below HD7.out) hd100).mono ?_
      rintro e w8 ⟨rfl, hb8⟩
      have HB8 : Hid (Below W1.heap.size W1 w8) := belNext HB7.out hb8
      clear hb8
      go_wp2
      go_ret
      exact ⟨rfl, HBW.out.trans (HB8.out.mono HBW.out.size)⟩
    | true =>
      have HVL : Hid ((m5 : Int) = 1 + inp + ls.length + xs.length) := by have h := vals_len HO.out; rw [HVS.out, HM5.out] at h; exact h
      obtain ⟨e1, e2, e3⟩ := fitsB_iff.1 HO.out
      have HOK := hideN e1
      have HLN := hideN e2
      have HIN2 := hideN e3
      obtain ⟨hi0, hi8, _, hx40, _⟩ := sizes_ok e1
      clear e1 e2 e3
      have hm5z : ((m5 : Int) == 0) = false := by have := HVL.out; simp; omega
      have HF6 := hideD (HF1.out.below HB6.out)
      have c30 := HF6.out.c0
      have c31 := HF6.out.c1
      have c32 := HF6.out.c2
      have c33 := HF6.out.c3
      have c34 := HF6.out.lt
      go_wp2_with fail
      refine (implAigLess_any inp al aa ab cl ca cb ls xs cs _ (HV.out _ HB6.out) L64.out A64.out B64.out).mono ?_
      rintro e w7 ⟨i7, ls7, xs7, bs7, hIL, al7, aa7, ab7, cl7, ca7, cb7, rfl, r1, r2, r3, hb7⟩
      obtain ⟨rfl, ok7, ⟨j1, j2, j3⟩, q1, q2, q3, _, hsem⟩ := less_sem HOK.out L64.out A64.out B64.out hIL
      obtain ⟨hn7, hbd7⟩ := hsem lats ins HLN.out HIN2.out
      rw [HNX.out] at hn7
      rw [HBD.out] at hbd7
      have HN7 := hideN hn7
      have HBD7 := hideN hbd7
      have HC7i := hideN (LessPost.isCir (inp := i7) r1 r2 r3 (by unfold maxLen; omega) (by unfold maxLen; omega) (by unfold maxLen; omega))
      have HJ1 := hideN j1
      have HJ2 := hideN j2
      have HJ3 := hideN j3
      have HB7 : Hid (Below W1.heap.size W1 w7) := belNext HB6.out hb7
      have HC7 : Hid (Below w2.heap.size w2 w7) := belNext HC6.out hb7
      clear hb7 r1 r2 r3 hIL ok7 j1 j2 j3 hsem hn7 hbd7 c30 c31 c32 c33 c34 q1 q2 q3
      go_wp2_with fail
      refine (implAigStep_any i7 al7 aa7 ab7 cl7 ca7 cb7 ls7 xs7 bs7 alt ain clt cin lats ins _ HC7i.out (HLA.out _ HB7.out) (HIN.out _ HB7.out) HJ1.out HJ2.out HJ3.out (by omega) (by omega)).mono ?_
      rintro e w8 ⟨a8, m8, c8, a9, m9, c9, n8, rfl, hm8, hm9, _, ho8, _, ho9, hb8⟩
      rw [HN7.out] at hm8 ho8
      rw [HBD7.out] at hm9 ho9
      have HO8 : Hid (IsBits w8 (.slice a8 m8 c8) nx) := ho8.isBits
      have HO9 : Hid (IsBits w8 (.slice a9 m9 c9) bd) := ho9.isBits
      have HB8 : Hid (Below W1.heap.size W1 w8) := belNext HB7.out hb8
      have HC8 : Hid (Below w2.heap.size w2 w8) := belNext HC7.out hb8
      clear hb8 ho8 ho9 hm8 hm9
      go_wp2_with fail
      refine (rgBools_below _ _ nx _ HO8.out (HO1.out.isBits.below HC8.out) hx100).mono ?_
      rintro e w9 ⟨rfl, hb9⟩
      have HB9 : Hid (Below W1.heap.size W1 w9) := belNext HB8.out hb9
      have HC9 : Hid (Below w2.heap.size w2 w9) := belNext HC8.out hb9
      have HO99 : Hid (IsBits w9 (.slice a9 m9 c9) bd) := HO9.out.below hb9
      clear hb9
      go_wp2_with fail
      refine (rgBools_below _ _ bd _ HO99.out (HO2.out.isBits.below HC9.out) hd100).mono ?_
      rintro e w10 ⟨rfl, hb10⟩
      have HB10 : Hid (Below W1.heap.size W1 w10) := belNext HB9.out hb10
      clear hb10
      go_wp2
      go_ret
      exact ⟨rfl, HBW.out.trans (HB10.out.mono HBW.out.size)⟩
  · go_enter Try.func10, Try.ntmps10
    go_wp2
    go_ret
    exact ⟨rfl, Below.refl _ _⟩

set_option maxRecDepth 100000 in
theorem fnAigLessStep_lifted (os : Os) (started : os.Started) (H : Type) (enc : TypeId × Value → H) :
    ReturnsInHanded {} Try.checked os 10 .any (Rows.fnAigLessStepSpec.pre6 enc Try.prog Try.f10 Rows.fnAigLessStepRow.domain false) (Rows.fnAigLessStepSpec.post enc Try.prog Try.f10 false true false false) := by
  refine returnsInHanded_of_change (C := Try.checked) own started (by kernel_rfl) Try.func10
    (ChangeSpec.witness6 (enc := enc) (C := Try.checked) false ⟨#[], #[.slice none 0 0], []⟩ 8 (by kernel_rfl) (by kernel_rfl) (by kernel_rfl) (by kernel_rfl)) ?_
  intro W base args ds gs before hval0 hW hcnd _
  have hval : ∀ (j : Nat) t v, Try.f10.params[j]? = some t → args[j]? = some v → Value.okWide Try.prog W .any base t v := hval0
  have hW' := hW
  obtain ⟨p, q, hA0, hV, rfl, hfz, hnd⟩ := hW
  have hA : DataW.TrodAll enc Try.prog W 0 (fun _ => true) true Try.f10.params.toList args.toList ds p := hA0
  rw [Try.params10] at hA hval
  obtain ⟨v0, vs0, d0, ds0, p0, q0, hargs, rfl, rfl, h0, r0⟩ := trodAll_cons hA
  obtain ⟨rfl, rfl, rfl⟩ := trodAll_nil r0
  obtain rfl : args = #[v0] := by cases args; simp_all
  obtain ⟨rfl, rfl⟩ := trodVars_none hV
  have k0 := h0
  have lt0 : ∀ x ∈ p0, x.block < W.heap.size := by obtain ⟨m, hm⟩ := k0; exact DataW.trod_lt m _ _ _ hm
  have hv0 := hval 0 61 v0 rfl rfl
  obtain ⟨ao, len, cap, rfl⟩ := okWide_slice Try.underlying61 hv0
  obtain ⟨fuel, hf⟩ := h0
  obtain ⟨bs, hbs, hml⟩ := isBytes_of_trod (by simpa [Value.cells] using hf)
  clear hA0 hval0
  refine (fnAigLessStep_walk _ bs W hbs (fun ao' n' cap' b off h1 h2 => by cases h1; subst h2; exact okWide_slice_lt Try.underlying61 hv0) hml).mono fun e W' ⟨he, bel⟩ => ?_
  subst he
  exact ⟨_, rfl, _, _, _, [], _, [], hW', trodAll_mk1 (shut_bool Try.underlying4 _), (trodAll_cons_mk (Below.trod laidOut (by kernel_rfl) (of_decide_eq_true (by kernel_rfl)) k0 bel lt0) trodAll_mk0), rfl, bel.frame _, fun h => by cases h⟩

theorem fnAigLessStep_holds : Rows.FnAigLessStepSaid :=
  OpenClaim.holds_of_wide 10 Try.f10 rfl rfl rfl rfl rfl rfl rfl ⟨rfl, rfl, rfl, rfl, rfl⟩ rfl rfl rfl rfl rfl (by kernel_rfl) Try.func10 (by kernel_rfl)
    (of_decide_eq_true (by kernel_rfl)) (by unfold Func.isWrapper; first | (rw [if_pos (by decide +kernel)]; kernel_rfl) | (rw [if_neg (by decide +kernel)]; exact ⟨rfl, rfl⟩))
    (fun os started H enc _ => fnAigLessStep_lifted os started H enc)

end Go.Proofs.Ytlahnihpdidanaa
