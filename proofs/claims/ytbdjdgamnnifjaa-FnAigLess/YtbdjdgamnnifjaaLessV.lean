/-
  The law FnAigLess (a circuit without what is needless does the same): a circuit is drawn from the bytes that come in, and rows of inputs are made of more bytes; the law answers true at every such argument. No condition: every argument that can be read.
-/
import Derived.Test.YtbdjdgamnnifjaaLessU
import Derived.Test.YtbdjdgamnnifjaaLessQ
import Derived.Test.YtbdjdgamnnifjaaLess16
import Derived.Test.YtbdjdgamnnifjaaAigQX
import Derived.Deep.RegionHeld3
import Derived.Deep.DeepCutAuto
namespace Go.Proofs.Ytbdjdgamnnifjaa
open Go.ChangeShapes Go.WideShapes Go.ChangeAt Go.RowKit Go.Deep Go.Joins
set_option linter.unusedVariables false

theorem bits_one' (w : World) (b : Bool) : IsBits (w.alloc (.cells #[.bool b] 4)) (.slice (some ⟨w.heap.size, 0, none⟩) 1 1) [b] :=
  ⟨_, _, rfl, fun _ => ⟨w.heap.size, 0, rfl, fun i hi => by
    have : i = 0 := by simp at hi; omega
    subst this
    simp⟩⟩

theorem meas_lt {I n : Nat} (h : n < I) : I - (intOf (.int .i64 ((n : Int) + 1))).toNat < I - (intOf (.int .i64 (n : Int))).toNat := by simp [intOf]; omega
theorem snoc_le {α : Type} {l : List α} {y : α} {I : Nat} (h : l.length < I) : (l ++ [y]).length ≤ I := by rw [List.length_append]; exact h
theorem snoc_slice {α : Type} (l : List α) (y : α) (a : Option Addr) (c : Nat) : Value.slice a (l.length + 1) c = Value.slice a (l ++ [y]).length c := by rw [List.length_append]; rfl
theorem snoc_int {α : Type} (l : List α) (y : α) : Value.int .i64 ((l.length : Int) + 1) = Value.int .i64 ((l ++ [y]).length : Nat) := by rw [List.length_append]; rfl

theorem slice_oneCell' (a : Option Addr) (n c : Nat) : ∀ u ∈ [Value.slice a n c], u.oneCell' = true := by intro u hu; simp at hu; subst hu; rfl

set_option maxRecDepth 100000 in
theorem and_differs {p q : Int × Int} (hp : Fits p) (hq : Fits q) (h : p ≠ q) (w : World) : (binOp .eql 65 (.agg #[.int .i64 p.1, .int .i64 p.2]) (.agg #[.int .i64 q.1, .int .i64 q.2])).run Try.prog w = .ok (.bool false) w := by
  obtain ⟨r, hr, hiff⟩ := run_equal_deep (P := Try.prog) w (m := 3) (by decide) (k := 65) (by kernel_rfl) andWide (keyOf_and p hp) (keyOf_and q hq)
  have hrf : r = false := by
    cases r with
    | false => rfl
    | true => exact absurd (keyA_inj hp hq (hiff.1 rfl)) h
  subst hrf
  simp only [binOp]
  simp [hr]

set_option maxRecDepth 100000 in
set_option maxHeartbeats 16000000 in
theorem fnAigLess_walk (v v2 : Value) (bs ms : List Int) (w : World) (hv : IsBytes w v bs) (hv2 : IsBytes w v2 ms) (hal : ∀ ao n cap b off, v = .slice ao n cap → ao = some ⟨b, off, none⟩ → b < w.heap.size) (hal2 : ∀ ao n cap b off, v2 = .slice ao n cap → ao = some ⟨b, off, none⟩ → b < w.heap.size) (hml : bs.length ≤ maxLen) (hml2 : ms.length ≤ maxLen) :
    Calls Try.prog 9 #[v, v2] w fun e w' => e = .returned (.bool true) ∧ Below w.heap.size w w' := by
  unfold maxLen at hml hml2
  have HV0 : Hid (IsBytes w v bs) := hv
  have HV2 : Hid (IsBytes w v2 ms) := hv2
  have HAL : Hid (∀ ao n cap b off, v = .slice ao n cap → ao = some ⟨b, off, none⟩ → b < w.heap.size) := hal
  have HAL2 : Hid (∀ ao n cap b off, v2 = .slice ao n cap → ao = some ⟨b, off, none⟩ → b < w.heap.size) := hal2
  obtain ⟨aoc, capc, rfl, _⟩ := hv
  obtain ⟨aom, capm, rfl, _⟩ := hv2
  obtain ⟨i0, hib, hz0, hz1, hz2⟩ := info_parts info_bools
  clear hal hal2
  by_cases hbig : bs.length ≤ 1048576
  case neg =>
    go_enter Try.func9, Try.ntmps9
    go_wp2
    go_ret
    exact ⟨rfl, Below.refl _ _⟩
  by_cases hbig2 : ms.length ≤ 1048576
  case neg =>
    go_enter Try.func9, Try.ntmps9
    go_wp2
    go_ret
    exact ⟨rfl, Below.refl _ _⟩
  go_enter Try.func9, Try.ntmps9
  go_wp2_with fail
  refine (drawAigLess_any _ bs _ HV0.out hbig HAL.out).mono ?_
  rintro e w0 ⟨inp, al, aa, ab, cl, ca, cb, ls, xs, cs, rfl, hD⟩
  have hlo := hD.lo
  have hhi := hD.hi
  have hll := hD.ll
  have hla := hD.la
  have hlb := hD.lb
  have L64 : Hid (∀ p ∈ ls, I64 p.1) := hD.l64
  have A64 : Hid (∀ p ∈ xs, I64 p.1 ∧ I64 p.2) := hD.a64
  have B64 : Hid (∀ x ∈ cs, I64 x) := hD.b64
  obtain ⟨W1, hW1⟩ : ∃ W1, W1 = w0.alloc (.cells #[.int .i64 inp, .slice al ls.length cl, .slice aa xs.length ca, .slice ab cs.length cb] 33) := ⟨_, rfl⟩
  have HF1 : Hid (Own4 W1 w0.heap.size 33 (.int .i64 inp) (.slice al ls.length cl) (.slice aa xs.length ca) (.slice ab cs.length cb)) := by rw [hW1]; exact Own4.new _ _ _ _ _ _
  have HBW : Hid (Below w.heap.size w W1) := by rw [hW1]; exact belNext hD.bel (belOne _ _)
  have HV : Hid (∀ w', Below W1.heap.size W1 w' → IsCir w' al aa ab cl ca cb ls xs cs) := fun w' h => by subst hW1; exact hD.cir.below (belNext (belOne _ _) h)
  have HB1 : Hid (Below W1.heap.size W1 W1) := Below.refl _ _
  have HW1 := hideN hW1
  clear hD hW1
  go_wp2_with fail
  rw [← HW1.out]
  refine (implAigLess_any inp al aa ab cl ca cb ls xs cs _ (HV.out _ HB1.out) L64.out A64.out B64.out).mono ?_
  rintro e w2 ⟨i', ls', xs', bs', hIL, al2, aa2, ab2, cl2, ca2, cb2, rfl, r1, r2, r3, hb2⟩
  have HIL := hideN hIL
  obtain ⟨sl, sx, sb⟩ := hIL.small L64.out A64.out B64.out
  have HOI : Hid (okC inp ls xs cs = true → 0 ≤ inp) := fun h => (okC_sizes h).1
  obtain ⟨W2, hW2⟩ : ∃ W2, W2 = w2.alloc (.cells #[.int .i64 i', .slice al2 ls'.length cl2, .slice aa2 xs'.length ca2, .slice ab2 bs'.length cb2] 33) := ⟨_, rfl⟩
  have HX2 : Hid (Own4 W2 w2.heap.size 33 (.int .i64 i') (.slice al2 ls'.length cl2) (.slice aa2 xs'.length ca2) (.slice ab2 bs'.length cb2)) := by rw [hW2]; exact Own4.new _ _ _ _ _ _
  have HB2 : Hid (Below W1.heap.size W1 W2) := by rw [hW2]; exact belNext hb2 (belOne _ _)
  have HXC : Hid (∀ w', Below W2.heap.size W2 w' → IsCir w' al2 aa2 ab2 cl2 ca2 cb2 ls' xs' bs') := fun w' h => by
    subst hW2
    exact (LessPost.isCir (inp := i') r1 r2 r3 (by unfold maxLen; omega) (by unfold maxLen; omega) (by unfold maxLen; omega)).below (belNext (belOne _ _) h)
  have HW2 := hideN hW2
  have HA2 := hideN (HF1.out.below HB2.out)
  have HA2' := hideN (HF1.out.below hb2)
  clear hb2 hIL r1 r2 r3 hW2
  have c0 := HA2'.out.four.c0
  have c1 := HA2'.out.four.c1
  have c2 := HA2'.out.four.c2
  have c3 := HA2'.out.four.c3
  have c4 := HA2'.out.lt
  go_wp2_with fail
  rw [← HW2.out]
  clear c0 c1 c2 c3 c4 HA2'
  obtain ⟨o, ho⟩ : ∃ o, okC inp ls xs cs = o := ⟨_, rfl⟩
  have HO : Hid (okC inp ls xs cs = o) := ho
  have HOS : Hid (okS inp ls xs cs = o) := by show okS inp ls xs cs = o; rw [← okC_eq L64.out A64.out B64.out]; exact ho
  clear ho
  have c0 := HA2.out.four.c0
  have c1 := HA2.out.four.c1
  have c2 := HA2.out.four.c2
  have c3 := HA2.out.four.c3
  have c4 := HX2.out.four.c0
  have c5 := HX2.out.four.c1
  have c6 := HX2.out.four.c2
  have c7 := HX2.out.four.c3
  have c8 := HA2.out.lt
  have c9 := HX2.out.lt
  have HBX : Hid (Below W2.heap.size W2 W2) := Below.refl _ _
  go_region_held3 (fun w' => w'.cell? ⟨w0.heap.size, 0, none⟩ = some (.int .i64 inp) ∧ w'.cell? ⟨w0.heap.size, 1, none⟩ = some (.slice al ls.length cl) ∧ w'.cell? ⟨w0.heap.size, 2, none⟩ = some (.slice aa xs.length ca) ∧ w'.cell? ⟨w0.heap.size, 3, none⟩ = some (.slice ab cs.length cb) ∧ w'.cell? ⟨w2.heap.size, 0, none⟩ = some (.int .i64 i') ∧ w'.cell? ⟨w2.heap.size, 1, none⟩ = some (.slice al2 ls'.length cl2) ∧ w'.cell? ⟨w2.heap.size, 2, none⟩ = some (.slice aa2 xs'.length ca2) ∧ w'.cell? ⟨w2.heap.size, 3, none⟩ = some (.slice ab2 bs'.length cb2))
    (first | exact ⟨by assumption, by assumption, by assumption, by assumption, by assumption, by assumption, by assumption, by assumption⟩ | (go_keep; done))
    (first
      | (go_simp; go_at_call 38; refine (specAigLess_any inp al aa ab cl ca cb ls xs cs _ (HV.out _ (by first | exact HB2.out | exact HB2.out.drew)) L64.out A64.out B64.out).mono ?_; rintro e w3 ⟨i3, ls3, xs3, bs3, hIL3, al3, aa3, ab3, cl3, ca3, cb3, rfl, r1, r2, r3, hbz⟩; obtain ⟨rfl, rfl, rfl, rfl⟩ := HIL.out.uniq hIL3 HOI.out; have hb3 : Below W2.heap.size W2 w3 := (by first | exact hbz | exact undrew hbz); have HB3 := hideN hb3; have HC3 := hideN (LessPost.isCir (inp := i') r1 r2 r3 (by unfold maxLen; omega) (by unfold maxLen; omega) (by unfold maxLen; omega)); have d0 := (HA2.out.below hb3).four.c0; have d1 := (HA2.out.below hb3).four.c1; have d2 := (HA2.out.below hb3).four.c2; have d3 := (HA2.out.below hb3).four.c3; have d4 := (HX2.out.below hb3).four.c0; have d5 := (HX2.out.below hb3).four.c1; have d6 := (HX2.out.below hb3).four.c2; have d7 := (HX2.out.below hb3).four.c3; clear hb3 hbz r1 r2 r3 hIL3)
      | (go_simp; go_at_call 42; refine (rgAig_same i' _ _ _ _ _ _ _ _ _ _ _ _ ls' xs' bs' _ (HXC.out _ HB3.out) HC3.out (by omega) (by omega) (by omega)).mono ?_; rintro e w4 ⟨rfl, hb4⟩; have HB4 := hideN (belNext HB3.out hb4); have f0 := (HA2.out.below HB4.out).four.c0; have f1 := (HA2.out.below HB4.out).four.c1; have f2 := (HA2.out.below HB4.out).four.c2; have f3 := (HA2.out.below HB4.out).four.c3; have f4 := (HX2.out.below HB4.out).four.c0; have f5 := (HX2.out.below HB4.out).four.c1; have f6 := (HX2.out.below HB4.out).four.c2; have f7 := (HX2.out.below HB4.out).four.c3; clear hb4)
      | (go_simp; go_at_call 43; refine (specAigOk_any inp al aa ab cl ca cb ls xs cs _ (HV.out _ (belNext HB2.out HB4.out))).mono ?_; rintro e w5 ⟨he, hb5⟩; rw [HOS.out] at he; subst he; have HB5 := hideN (belNext HB4.out hb5); have g0 := (HA2.out.below HB5.out).four.c0; have g1 := (HA2.out.below HB5.out).four.c1; have g2 := (HA2.out.below HB5.out).four.c2; have g3 := (HA2.out.below HB5.out).four.c3; have g4 := (HX2.out.below HB5.out).four.c0; have g5 := (HX2.out.below HB5.out).four.c1; have g6 := (HX2.out.below HB5.out).four.c2; have g7 := (HX2.out.below HB5.out).four.c3; clear hb5))
  clear c0 c1 c2 c3 c4 c5 c6 c7 c8 c9 d0 d1 d2 d3 d4 d5 d6 d7 f0 f1 f2 f3 f4 f5 f6 f7 g0 g1 g2 g3 g4 g5 g6 g7 HC3 HB3 HB4
  have HA5 := hideN (HA2.out.below HB5.out)
  have HX5 := hideN (HX2.out.below HB5.out)
  have c0 := HA5.out.four.c0
  have c1 := HA5.out.four.c1
  have c2 := HA5.out.four.c2
  have c3 := HA5.out.four.c3
  have c4 := HX5.out.four.c0
  have c5 := HX5.out.four.c1
  have c6 := HX5.out.four.c2
  have c7 := HX5.out.four.c3
  have c8 := HA5.out.lt
  have c9 := HX5.out.lt
  have HBE := hideN (HBW.out.trans ((belNext HB2.out HB5.out).mono HBW.out.size))
  cases o with
  | false =>
    go_wp2_with fail
    go_region_held3 (fun w' => w'.cell? ⟨w0.heap.size, 0, none⟩ = some (.int .i64 inp) ∧ w'.cell? ⟨w0.heap.size, 1, none⟩ = some (.slice al ls.length cl) ∧ w'.cell? ⟨w0.heap.size, 2, none⟩ = some (.slice aa xs.length ca) ∧ w'.cell? ⟨w0.heap.size, 3, none⟩ = some (.slice ab cs.length cb) ∧ w'.cell? ⟨w2.heap.size, 0, none⟩ = some (.int .i64 i') ∧ w'.cell? ⟨w2.heap.size, 1, none⟩ = some (.slice al2 ls'.length cl2) ∧ w'.cell? ⟨w2.heap.size, 2, none⟩ = some (.slice aa2 xs'.length ca2) ∧ w'.cell? ⟨w2.heap.size, 3, none⟩ = some (.slice ab2 bs'.length cb2))
      (first | exact ⟨by assumption, by assumption, by assumption, by assumption, by assumption, by assumption, by assumption, by assumption⟩ | (go_keep; done))
      (first
        | (go_simp; go_at_call 38; refine (specAigLess_any inp al aa ab cl ca cb ls xs cs _ (HV.out _ (by first | exact belNext HB2.out HB5.out | exact (belNext HB2.out HB5.out).drew)) L64.out A64.out B64.out).mono ?_; rintro e w6 ⟨i6, ls6, xs6, bs6, hIL6, al6, aa6, ab6, cl6, ca6, cb6, rfl, r1, r2, r3, hbz⟩; obtain ⟨rfl, rfl, rfl, rfl⟩ := HIL.out.uniq hIL6 HOI.out; have hb6 : Below w5.heap.size w5 w6 := (by first | exact hbz | exact undrew hbz); have HB6 := hideN (belNext HB5.out hb6); have HC6 := hideN (LessPost.isCir (inp := i') r1 r2 r3 (by unfold maxLen; omega) (by unfold maxLen; omega) (by unfold maxLen; omega)); have d0 := (HA2.out.below HB6.out).four.c0; have d1 := (HA2.out.below HB6.out).four.c1; have d2 := (HA2.out.below HB6.out).four.c2; have d3 := (HA2.out.below HB6.out).four.c3; have d4 := (HX2.out.below HB6.out).four.c0; have d5 := (HX2.out.below HB6.out).four.c1; have d6 := (HX2.out.below HB6.out).four.c2; have d7 := (HX2.out.below HB6.out).four.c3; clear hb6 hbz r1 r2 r3 hIL6)
        | (go_simp; go_at_call 42; refine (rgAig_same i' _ _ _ _ _ _ _ _ _ _ _ _ ls' xs' bs' _ (HXC.out _ HB6.out) HC6.out (by omega) (by omega) (by omega)).mono ?_; rintro e w7 ⟨rfl, hb7⟩; have HB7 := hideN (belNext HB6.out hb7); have f0 := (HA2.out.below HB7.out).four.c0; have f1 := (HA2.out.below HB7.out).four.c1; have f2 := (HA2.out.below HB7.out).four.c2; have f3 := (HA2.out.below HB7.out).four.c3; have f4 := (HX2.out.below HB7.out).four.c0; have f5 := (HX2.out.below HB7.out).four.c1; have f6 := (HX2.out.below HB7.out).four.c2; have f7 := (HX2.out.below HB7.out).four.c3; clear hb7))
    have HBF := hideN (HBW.out.trans ((belNext HB2.out HB7.out).mono HBW.out.size))
    go_wp2_with fail
    go_ret
    exact ⟨rfl, HBF.out⟩
  | true =>
    obtain ⟨h0, h8, hl8, hx40, hb4⟩ := okC_sizes HO.out
    obtain ⟨hii, ok', ⟨j1, j2, j3⟩, q1, q2, q3, _, _⟩ := less_sem HO.out L64.out A64.out B64.out HIL.out
    subst hii
    obtain ⟨hsame, hnorm⟩ := less_same HO.out L64.out A64.out B64.out HIL.out
    have HSAME := hideN hsame
    have HNORM := hideN hnorm
    have HOK' := hideN ok'
    have J1 := hideN j1
    have J2 := hideN j2
    have J3 := hideN j3
    have HFT : Hid (∀ k, k < xs'.length → Fits (xs'.getD k (0, 0))) := fun k hk => by
      obtain ⟨F, hF⟩ : ∃ F : Nat, (F : Int) = 1 + i' + ls'.length := ⟨(1 + i' + ls'.length).toNat, by omega⟩
      have h := (okS_ands ok' j1 j2 j3 hF).1 k hk
      unfold Fits
      omega
    have HRUN := hideN (less_run HO.out L64.out A64.out B64.out HIL.out)
    have hq3 : decide ((xs'.length : Int) ≤ (xs.length : Int)) = true := by simp; omega
    have HS : Hid (∀ V, Below w5.heap.size w5 V → Below W2.heap.size W2 V ∧ Own4 V w0.heap.size 33 (.int .i64 i') (.slice al ls.length cl) (.slice aa xs.length ca) (.slice ab cs.length cb) ∧ Own4 V w2.heap.size 33 (.int .i64 i') (.slice al2 ls'.length cl2) (.slice aa2 xs'.length ca2) (.slice ab2 bs'.length cb2)) := fun V hV => ⟨belNext HB5.out hV, HA5.out.below hV, HX5.out.below hV⟩
    clear hsame hnorm ok' j1 j2 j3 q1 q2 q3
    go_wp2_with fail
    clear c0 c1 c2 c3 c4 c5 c6 c7 c8 c9
    have HAN : Hid (∀ V, Below W2.heap.size W2 V → ∀ k, k < xs'.length → ∃ b off, aa2 = some ⟨b, off, none⟩ ∧ ∀ i, i < xs'.length → V.cell? ⟨b, off + i * 2, none⟩ = some (.int .i64 (xs'.getD i (0, 0)).1) ∧ V.cell? ⟨b, off + i * 2 + 1, none⟩ = some (.int .i64 (xs'.getD i (0, 0)).2)) := fun V hV k hk => by
      obtain ⟨ao', cap', he, h⟩ := (HXC.out V hV).isA
      obtain ⟨b, off, ha, hc⟩ := h (by intro e; subst e; simp at hk)
      injection he with e1 e2 e3
      exact ⟨b, off, e1.trans ha, hc⟩
    simp only [Bool.not_true]
    go_loopw [7] (fun i wr => ∃ k : Nat, k ≤ xs'.length ∧ i = .int .i64 k ∧ Hid (Below w5.heap.size w5 wr)) (fun i _ => xs'.length - (intOf i).toNat)
    case atStart => exact ⟨0, Nat.zero_le _, rfl, Below.refl _ _⟩
    case round =>
      rename World => V
      obtain ⟨k, hk, rfl, hV⟩ := hrel
      obtain ⟨hbw, hO1, hO2⟩ := HS.out V hV.out
      have d2 := hO2.four.c2
      have d4 := hO2.lt
      by_cases hlt : k < xs'.length
      · obtain ⟨b, off, hao, hcs⟩ := HAN.out V hbw k hlt
        obtain ⟨e1, e2⟩ := hcs k hlt
        obtain ⟨⟨n1, n2, _⟩, n4⟩ := HNORM.out k hlt
        have HN4 := hideN n4
        have HPQ : Hid (xs'.getD k (0, 0) = xs'.getD k (0, 0)) := rfl
        obtain ⟨p, hp⟩ : ∃ p, (xs'.getD k (0, 0)).1 = p := ⟨_, rfl⟩
        obtain ⟨q, hq⟩ : ∃ q, (xs'.getD k (0, 0)).2 = q := ⟨_, rfl⟩
        rw [hp] at e1 n1 n2
        rw [hq] at e2 n2
        have HP := hideN hp
        have HQ := hideN hq
        have HAO := hideN hao
        clear hcs n4 hp hq HPQ hbw hO1 hO2
        have n5 : decide (q ≤ p) = false := by simp; omega
        have n6 : decide (p < 2) = false := by simp; omega
        have d2' : V.cell? ⟨w2.heap.size, 2, none⟩ = some (.slice (some ⟨b, off, none⟩) xs'.length ca2) := by rw [d2, hao]
        clear d2 hao
        go_wp2_with fail
        go_quiet (fail)
        go_wp2_with fail
        clear d2' d4 e1 e2 n5 n6
        go_loopw [8] (fun i wr => ∃ j : Nat, j ≤ k ∧ i = .int .i64 j ∧ Hid (Below w5.heap.size w5 wr)) (fun i _ => k - (intOf i).toNat)
        case atStart => exact ⟨0, Nat.zero_le _, rfl, below_drewN hV.out _⟩
        case round =>
          rename World => U
          obtain ⟨j, hj, rfl, hU⟩ := hrel
          obtain ⟨hbu, hP1, hP2⟩ := HS.out U hU.out
          have d2 := hP2.four.c2
          have d4 := hP2.lt
          by_cases hjl : j < k
          · obtain ⟨b', off', hao, hcs⟩ := HAN.out U hbu k hlt
            obtain ⟨e1, e2⟩ := hcs k hlt
            obtain ⟨e3, e4⟩ := hcs j (by omega)
            have hne := HN4.out j hjl
            rw [HP.out] at e1
            rw [HQ.out] at e2
            have hne2 : ¬ ((xs'.getD j (0, 0)).1 = p ∧ (xs'.getD j (0, 0)).2 = q) := fun h => hne (Prod.ext (h.1.trans HP.out.symm) (h.2.trans HQ.out.symm))
            have heq := fun W => and_differs (HFT.out j (by omega)) (HFT.out k hlt) hne W
            rw [HP.out, HQ.out] at heq
            generalize (xs'.getD j (0, 0)).1 = p' at *
            generalize (xs'.getD j (0, 0)).2 = q' at *
            have hjx : j < xs'.length := by omega
            have d2' : U.cell? ⟨w2.heap.size, 2, none⟩ = some (.slice (some ⟨b', off', none⟩) xs'.length ca2) := by rw [d2, hao]
            clear d2 hao hcs hne hne2 hbu hP1 hP2
            go_wp2_with fail
            go_quiet (fail)
            go_wp2_with fail
            go_roundw
            case rel => exact ⟨j + 1, by omega, by go_num, below_drewN hU.out _⟩
            case measure => simp [intOf]; omega
          · obtain rfl : j = k := by omega
            go_wp2_with fail
            go_roundw
            case rel => exact ⟨j + 1, by omega, by go_num, hU⟩
            case measure => simp [intOf]; omega
      · obtain rfl : k = xs'.length := by omega
        have HBV := hideN hV.out
        have HG0 : Hid (GridB (V.alloc (.cells #[] 27)) w5.heap.size (.slice (some ⟨V.heap.size, 0, none⟩) 0 0) []) := by
          obtain ⟨vs, g1, g2⟩ := gridB_empty V
          exact ⟨vs, row_base g1 hV.out.size, fun i hi => by simp at hi⟩
        have HB0 : Hid (Below w5.heap.size w5 (V.alloc (.cells #[] 27))) := belNext hV.out (belOne _ _)
        obtain ⟨I, hI⟩ : ∃ I : Nat, i' = (I : Int) := ⟨i'.toNat, by omega⟩
        have hI8 : I ≤ 8 := by omega
        have HI := hideN hI
        clear hbw hO1 hO2 hlt hk hI
        go_wp2_with fail
        go_loopw [9, 10] (fun o t wr => ∃ (ao : Option Addr) (cap : Nat) (rows : List (List Bool)), rows.length ≤ 6 ∧ o = .slice ao rows.length cap ∧ t = .int .i64 (rows.length : Nat) ∧ Hid (∀ i, i < rows.length → (rows.getD i []).length ≤ 8) ∧ Hid (GridB wr w5.heap.size (.slice ao rows.length cap) rows) ∧ Hid (Below w5.heap.size w5 wr)) (fun _ t _ => 6 - (intOf t).toNat)
        case atStart => exact ⟨_, 0, [], by simp, rfl, rfl, fun i hi => by simp at hi, HG0, HB0⟩
        case round =>
          rename World => G
          obtain ⟨ao, cap, rows, hr6, rfl, rfl, hrl, hg, hG⟩ := hrel
          obtain ⟨hbw, hO1, hO2⟩ := HS.out G hG.out
          by_cases hlt : rows.length < 6
          · have c0 := hO1.four.c0
            have c8 := hO1.lt
            have HAG := hideN hO1
            have HR0 : Hid (Ownb (G.alloc (.cells #[] 4)) G.heap.size (.slice (some ⟨G.heap.size, 0, none⟩) 0 0) []) := ownb_empty G
            have HBG0 : Hid (Below G.heap.size G (G.alloc (.cells #[] 4))) := belOne _ _
            have hsz := hG.out.size
            have dlt6 : decide ((rows.length : Int) < 6) = true := by simp; omega
            clear hbw hO1 hO2
            go_wp2_with fail
            try simp only [dlt6, Bool.not_true]
            go_loopw [11, 12] (fun r i wr => ∃ (ar : Option Addr) (cr : Nat) (rr : List Bool), rr.length ≤ I ∧ r = .slice ar rr.length cr ∧ i = .int .i64 (rr.length : Nat) ∧ Hid (Ownb wr G.heap.size (.slice ar rr.length cr) rr) ∧ Hid (Below G.heap.size G wr)) (fun _ i _ => I - (intOf i).toNat)
            case atStart => exact ⟨_, 0, [], by simp, rfl, rfl, HR0, HBG0⟩
            case round =>
              rename World => R
              obtain ⟨ar, cr, rr, hri, rfl, rfl, hrow, hR⟩ := hrel
              have HAR := hideN (HAG.out.below hR.out)
              have c0' := HAR.out.four.c0
              have c8' := HAR.out.lt
              clear c0 c8
              by_cases hil : rr.length < I
              · have dil : decide ((rr.length : Int) < i') = true := by rw [HI.out]; simp; omega
                obtain ⟨M, hM, hM48⟩ : ∃ M : Nat, (rows.length : Int) * i' = (M : Int) ∧ M ≤ 48 := ⟨rows.length * I, by rw [HI.out]; push_cast; rfl, Nat.mul_le_mul (by omega : rows.length ≤ 6) hI8⟩
                have hw1 : IntKind.i64.wrap ((rows.length : Int) * i') = (M : Int) := by rw [hM, IntKind.wrap_i64]; omega
                have hw2 : IntKind.i64.wrap ((M : Int) + (rr.length : Int)) = ((M + rr.length : Nat) : Int) := by rw [IntKind.wrap_i64]; omega
                have hRs := hR.out.size
                have HBR := hideN (belNext (belNext HBE.out hG.out) hR.out)
                have hfin : ∀ (y : Bool) (g9 c9 : Nat) (w9 : World), Ownb w9 G.heap.size (.slice (some ⟨g9, 0, none⟩) (rr.length + 1) c9) (rr ++ [y]) → (R.alloc (.cells #[.bool y] 4)).grownBy w9 (Value.slice ar rr.length cr).ownBlock → Hid (Ownb w9 G.heap.size (.slice (some ⟨g9, 0, none⟩) (rr ++ [y]).length c9) (rr ++ [y])) ∧ Hid (Below G.heap.size G w9) := fun y g9 c9 w9 h1 h2 => ⟨by rw [List.length_append]; exact h1, below_grown (belNext hR.out (belOne _ _)) (hrow.out.below (belOne _ _)) (by simp; omega) h2⟩
                have HFIN := hideN hfin
                clear hfin hM
                by_cases hkm : M + rr.length < ms.length
                · obtain ⟨bm, om, ham, hcm, hxr⟩ : ∃ bm om, aom = some ⟨bm, om, none⟩ ∧ R.cell? ⟨bm, om + (M + rr.length), none⟩ = some (.int .u8 (ms.getD (M + rr.length) 0)) ∧ (0 ≤ ms.getD (M + rr.length) 0 ∧ ms.getD (M + rr.length) 0 ≤ 255) := by
                    obtain ⟨ao', cap', he, _, h3, h4⟩ := HV2.out
                    obtain ⟨b, off, ha, hc⟩ := h3 (by intro e; subst e; simp at hkm)
                    injection he with e1 e2 e3
                    have hcc := hc _ hkm
                    exact ⟨b, off, e1.trans ha, (HBR.out.cell (p := ⟨b, off + (M + rr.length), none⟩) (cell_lt hcc)).trans hcc, (by have := h4 _ hkm; omega)⟩
                  subst ham
                  have dkm : decide (((M + rr.length : Nat) : Int) < (ms.length : Int)) = true := by simp; omega
                  generalize ms.getD (M + rr.length) 0 = x at *
                  obtain ⟨hx0, hx1⟩ := hxr
                  have hxm : x.tmod 2 = x % 2 := by rw [Int.tmod_eq_emod_of_nonneg hx0]
                  obtain ⟨K, hK⟩ : ∃ K : Nat, K = M + rr.length := ⟨_, rfl⟩
                  rw [← hK] at hw2 hcm dkm hkm
                  clear hK
                  go_wp2_with (at_builtin; refine wpList_push rfl _ _ rfl G.heap.size _ _ rr _ rfl rfl (hrow.out.below (belOne _ _)) (by simp; omega) (bits_one' _ _) rr.length rfl (by omega) ?_; intro g9 c9 w9 hv9 hg9)
                  obtain ⟨HR9, HB9⟩ := HFIN.out _ g9 c9 w9 hv9 hg9
                  clear hv9 hg9
                  go_wp2_with fail
                  go_roundw
                  case rel => exact ⟨_, c9, _, snoc_le hil, snoc_slice rr _ _ _, snoc_int rr _, HR9, HB9⟩
                  case measure => exact meas_lt hil
                · have dkm : decide (((M + rr.length : Nat) : Int) < (ms.length : Int)) = false := by simp; omega
                  obtain ⟨K, hK⟩ : ∃ K : Nat, K = M + rr.length := ⟨_, rfl⟩
                  rw [← hK] at hw2 dkm hkm
                  clear hK
                  go_wp2_with (at_builtin; refine wpList_push rfl _ _ rfl G.heap.size _ _ rr _ rfl rfl (hrow.out.below (belOne _ _)) (by simp; omega) (bits_one' _ _) rr.length rfl (by omega) ?_; intro g9 c9 w9 hv9 hg9)
                  obtain ⟨HR9, HB9⟩ := HFIN.out _ g9 c9 w9 hv9 hg9
                  clear hv9 hg9
                  go_wp2_with fail
                  go_roundw
                  case rel => exact ⟨_, c9, _, snoc_le hil, snoc_slice rr _ _ _, snoc_int rr _, HR9, HB9⟩
                  case measure => exact meas_lt hil
              · have hrI : rr.length = I := by omega
                have dil : decide ((rr.length : Int) < i') = false := by rw [HI.out]; simp; omega
                have hRs := hR.out.size
                have HGR : Hid (GridB R w5.heap.size (.slice ao rows.length cap) rows) := hg.out.keep (fun k _ hk => hR.out.block k hk)
                have HRR : Hid (Ownb R w5.heap.size (.slice ar rr.length cr) rr) := hrow.out.base hsz
                have HBR5 : Hid (Below w5.heap.size w5 R) := belNext hG.out hR.out
                have hr8 : rr.length ≤ 8 := by omega
                obtain ⟨vs, g1, g2⟩ := HGR.out
                have HV1 : Hid (R.ownsRow w5.heap.size 27 1 (.slice ao rows.length cap) rows.length vs) := g1
                have HVV2 : Hid (∀ i, i < rows.length → ∃ rv, vs[i]? = some rv ∧ Ownb R w5.heap.size rv (rows.getD i [])) := g2
                have hs5 : w5.heap.size ≤ R.heap.size := HBR5.out.size
                have HBA : Hid (Below w5.heap.size w5 (R.alloc (.cells #[.slice ar rr.length cr] 27))) := belNext HBR5.out (belOne _ _)
                have hsA : w5.heap.size ≤ (R.alloc (.cells #[.slice ar rr.length cr] 27)).heap.size := HBA.out.size
                have HVA : Hid ((R.alloc (.cells #[.slice ar rr.length cr] 27)).ownsRow w5.heap.size 27 1 (.slice ao rows.length cap) rows.length vs) := World.ownsRow.alloc HV1.out _
                have HVB : Hid (∀ i, i < rows.length → ∃ rv, vs[i]? = some rv ∧ Ownb (R.alloc (.cells #[.slice ar rr.length cr] 27)) w5.heap.size rv (rows.getD i [])) := fun i hi => by obtain ⟨rv, h1, h2⟩ := g2 i hi; exact ⟨rv, h1, h2.below (belOne _ _)⟩
                have HRB : Hid (Ownb (R.alloc (.cells #[.slice ar rr.length cr] 27)) w5.heap.size (.slice ar rr.length cr) rr) := HRR.out.below (belOne _ _)
                clear g1 g2 hrI
                go_wp2_with (at_builtin; refine wpList_append_lies _ rfl _ _ 43 rfl w5.heap.size 27 i0 (.slice none 0 0) 1 24 Try.underlying43 hib hz0 hz1 hz2 rfl (by decide) _ rows.length vs rfl (World.ownsRow.alloc HV1.out _) ⟨R.heap.size, 0, none⟩ 1 1 [.slice ar rr.length cr] rfl rfl (news1 _ _ _) (slice_oneCell' _ _ _) (by decide) (by unfold maxLen; omega) (by omega) (by simp; omega) _ rfl ?_; intro g gcap w8 hown8 hgrow8 hat8 hlt8)
                have HG8 : Hid (GridB w8 w5.heap.size (.slice (some ⟨g, 0, none⟩) (rows.length + 1) gcap) (rows ++ [rr])) := GridB.snoc HVA.out HVB.out HRB.out hgrow8 hown8
                have HB8 : Hid (Below w5.heap.size w5 w8) := HBA.out.grown hgrow8 hsA (fun k e => (World.ownsRow.lt HVA.out k e).1)
                have HRL8 : Hid (∀ i, i < (rows ++ [rr]).length → ((rows ++ [rr]).getD i []).length ≤ 8) := fun i hi => by
                  rw [List.length_append] at hi
                  by_cases e : i < rows.length
                  · have : (rows ++ [rr]).getD i [] = rows.getD i [] := by simp [List.getD, List.getElem?_append_left e]
                    rw [this]; exact hrl.out i e
                  · have hi' : i = rows.length := by simp at hi; omega
                    subst hi'
                    have : (rows ++ [rr]).getD rows.length [] = rr := by simp [List.getD]
                    rw [this]; exact hr8
                clear hown8 hgrow8 hat8 hlt8
                go_wp2_with fail
                go_roundw
                case rel => exact ⟨some ⟨g, 0, none⟩, gcap, rows ++ [rr], snoc_le hlt, snoc_slice rows rr _ _, snoc_int rows rr, HRL8, by rw [List.length_append]; exact HG8, HB8⟩
                case measure => exact meas_lt hlt
          · have dlt6 : decide ((rows.length : Int) < 6) = false := by simp; omega
            have HCL : Hid (∀ V, Below G.heap.size G V → V.cell? ⟨w0.heap.size, 0, none⟩ = some (.int .i64 i') ∧ V.cell? ⟨w0.heap.size, 1, none⟩ = some (.slice al ls.length cl) ∧ V.cell? ⟨w0.heap.size, 2, none⟩ = some (.slice aa xs.length ca) ∧ V.cell? ⟨w0.heap.size, 3, none⟩ = some (.slice ab cs.length cb) ∧ V.cell? ⟨w2.heap.size, 0, none⟩ = some (.int .i64 i') ∧ V.cell? ⟨w2.heap.size, 1, none⟩ = some (.slice al2 ls'.length cl2) ∧ V.cell? ⟨w2.heap.size, 2, none⟩ = some (.slice aa2 xs'.length ca2) ∧ V.cell? ⟨w2.heap.size, 3, none⟩ = some (.slice ab2 bs'.length cb2)) := fun V hV => by
              have a := (hO1.below hV).four
              have b := (hO2.below hV).four
              exact ⟨a.c0, a.c1, a.c2, a.c3, b.c0, b.c1, b.c2, b.c3⟩
            have HBW2 := hideN hbw
            have HGB := hideN (belNext HBE.out hG.out)
            have HRO : Hid (∀ V, Below G.heap.size G V → IsBRows V (.slice ao rows.length cap) rows) := fun V hV => hg.out.isRows.below hV
            have HSU : Hid (rows.length + sumB rows ≤ 1048576) := by show _ ≤ _; have := sumB_le rows 8 hrl.out; omega
            obtain ⟨R, hR⟩ : ∃ R, runOf i' ls xs cs rows = R := ⟨_, rfl⟩
            have HR1 := hideN hR
            have HR2 : Hid (runOf i' ls' xs' bs' rows = R) := by show _ = _; rw [HRUN.out rows]; exact hR
            have eRR : (R == R) = true := by simp
            have hq4 : xs'.length ≤ xs.length := by simpa using hq3
            have hxlt := hO2.lt
            have halt := hO1.lt
            clear hbw hO1 hO2 hR hrl hg hlt
            go_wp2_with fail
            clear dlt6
            obtain ⟨z0, z1, z2, z3, z4, z5, z6, z7⟩ := HCL.out G.drew (below_drewN (Below.refl _ _) 1)
            refine wp_region_held_drew (S := fun V => V.cell? ⟨w0.heap.size, 0, none⟩ = some (.int .i64 i') ∧ V.cell? ⟨w0.heap.size, 1, none⟩ = some (.slice al ls.length cl) ∧ V.cell? ⟨w0.heap.size, 2, none⟩ = some (.slice aa xs.length ca) ∧ V.cell? ⟨w0.heap.size, 3, none⟩ = some (.slice ab cs.length cb) ∧ V.cell? ⟨w2.heap.size, 0, none⟩ = some (.int .i64 i') ∧ V.cell? ⟨w2.heap.size, 1, none⟩ = some (.slice al2 ls'.length cl2) ∧ V.cell? ⟨w2.heap.size, 2, none⟩ = some (.slice aa2 xs'.length ca2) ∧ V.cell? ⟨w2.heap.size, 3, none⟩ = some (.slice ab2 bs'.length cb2)) (by kernel_rfl) ⟨z0, z1, z2, z3, z4, z5, z6, z7⟩ (fun hHeld => ?_)
            clear hHeld
            refine wpAnyH_take (i := 0) (v := .agg #[.int .i64 i', .slice al2 ls'.length cl2, .slice aa2 xs'.length ca2, .slice ab2 bs'.length cb2]) rfl (by kernel_rfl) (by kernel_rfl) (by kernel_rfl) (fun _ _ _ h => h) (Or.inl ⟨by rfl, fun w hS => by obtain ⟨z0, z1, z2, z3, z4, z5, z6, z7⟩ := hS; go_simp⟩) ⟨z0, z1, z2, z3, z4, z5, z6, z7⟩ ?_
            simp only [List.getElem_toArray, List.getElem_cons_zero, Act.put, List.setIfInBounds_toArray, List.set_cons_zero, List.set_cons_succ]
            refine oneH (i := 1) (by kernel_rfl) rfl (by rfl) ?_
            simp only [List.getElem_toArray, List.getElem_cons_zero, List.getElem_cons_succ]
            go_simp
            refine (implAigOk_any i' al2 aa2 ab2 cl2 ca2 cb2 ls' xs' bs' _ (HXC.out _ (belNext HBW2.out (below_drewN (Below.refl _ _) 1)))).mono ?_
            rintro e wA ⟨he, hbA⟩
            rw [HOK'.out] at he
            subst he
            have HBA : Hid (Below G.heap.size G wA) := belNext (below_drewN (Below.refl _ _) 1) hbA
            clear hbA z0 z1 z2 z3 z4 z5 z6 z7
            obtain ⟨z0, z1, z2, z3, z4, z5, z6, z7⟩ := HCL.out wA HBA.out
            refine ⟨⟨z0, z1, z2, z3, z4, z5, z6, z7⟩, ?_⟩
            refine wpAnyH_take (i := 2) (v := .bool true) rfl (by kernel_rfl) (by kernel_rfl) (by kernel_rfl) (fun _ _ _ h => h) (Or.inl ⟨by rfl, fun w hS => by obtain ⟨z0, z1, z2, z3, z4, z5, z6, z7⟩ := hS; go_simp⟩) ⟨z0, z1, z2, z3, z4, z5, z6, z7⟩ ?_
            simp only [List.getElem_toArray, List.getElem_cons_zero, List.getElem_cons_succ, Act.put, List.setIfInBounds_toArray, List.set_cons_zero, List.set_cons_succ]
            refine wpAnyH_take (i := 3) (v := .pointer (some ⟨w2.heap.size, 2, none⟩)) rfl (by kernel_rfl) (by kernel_rfl) (by kernel_rfl) (fun _ _ _ h => h) (Or.inl ⟨by rfl, fun w hS => by obtain ⟨z0, z1, z2, z3, z4, z5, z6, z7⟩ := hS; go_simp⟩) ⟨z0, z1, z2, z3, z4, z5, z6, z7⟩ ?_
            simp only [List.getElem_toArray, List.getElem_cons_zero, List.getElem_cons_succ, Act.put, List.setIfInBounds_toArray, List.set_cons_zero, List.set_cons_succ]
            refine wpAnyH_take (i := 4) (v := .slice aa2 xs'.length ca2) rfl (by kernel_rfl) (by kernel_rfl) (by kernel_rfl) (fun _ _ _ h => h) (Or.inl ⟨by rfl, fun w hS => by obtain ⟨z0, z1, z2, z3, z4, z5, z6, z7⟩ := hS; go_simp⟩) ⟨z0, z1, z2, z3, z4, z5, z6, z7⟩ ?_
            simp only [List.getElem_toArray, List.getElem_cons_zero, List.getElem_cons_succ, Act.put, List.setIfInBounds_toArray, List.set_cons_zero, List.set_cons_succ]
            refine wpAnyH_take (i := 5) (v := .int .i64 (xs'.length : Int)) rfl (by kernel_rfl) (by kernel_rfl) (by kernel_rfl) (fun _ _ _ h => h) (Or.inl ⟨by rfl, fun w hS => by obtain ⟨z0, z1, z2, z3, z4, z5, z6, z7⟩ := hS; go_simp⟩) ⟨z0, z1, z2, z3, z4, z5, z6, z7⟩ ?_
            simp only [List.getElem_toArray, List.getElem_cons_zero, List.getElem_cons_succ, Act.put, List.setIfInBounds_toArray, List.set_cons_zero, List.set_cons_succ]
            refine wpAnyH_take (i := 6) (v := .pointer (some ⟨w0.heap.size, 2, none⟩)) rfl (by kernel_rfl) (by kernel_rfl) (by kernel_rfl) (fun _ _ _ h => h) (Or.inl ⟨by rfl, fun w hS => by obtain ⟨z0, z1, z2, z3, z4, z5, z6, z7⟩ := hS; go_simp⟩) ⟨z0, z1, z2, z3, z4, z5, z6, z7⟩ ?_
            simp only [List.getElem_toArray, List.getElem_cons_zero, List.getElem_cons_succ, Act.put, List.setIfInBounds_toArray, List.set_cons_zero, List.set_cons_succ]
            refine wpAnyH_take (i := 7) (v := .slice aa xs.length ca) rfl (by kernel_rfl) (by kernel_rfl) (by kernel_rfl) (fun _ _ _ h => h) (Or.inl ⟨by rfl, fun w hS => by obtain ⟨z0, z1, z2, z3, z4, z5, z6, z7⟩ := hS; go_simp⟩) ⟨z0, z1, z2, z3, z4, z5, z6, z7⟩ ?_
            simp only [List.getElem_toArray, List.getElem_cons_zero, List.getElem_cons_succ, Act.put, List.setIfInBounds_toArray, List.set_cons_zero, List.set_cons_succ]
            refine wpAnyH_take (i := 8) (v := .int .i64 (xs.length : Int)) rfl (by kernel_rfl) (by kernel_rfl) (by kernel_rfl) (fun _ _ _ h => h) (Or.inl ⟨by rfl, fun w hS => by obtain ⟨z0, z1, z2, z3, z4, z5, z6, z7⟩ := hS; go_simp⟩) ⟨z0, z1, z2, z3, z4, z5, z6, z7⟩ ?_
            simp only [List.getElem_toArray, List.getElem_cons_zero, List.getElem_cons_succ, Act.put, List.setIfInBounds_toArray, List.set_cons_zero, List.set_cons_succ]
            refine wpAnyH_take (i := 9) (v := .bool true) rfl (by kernel_rfl) (by kernel_rfl) (by kernel_rfl) (fun _ _ _ h => h) (Or.inl ⟨by rfl, fun w hS => by obtain ⟨z0, z1, z2, z3, z4, z5, z6, z7⟩ := hS; go_simp⟩) ⟨z0, z1, z2, z3, z4, z5, z6, z7⟩ ?_
            simp only [List.getElem_toArray, List.getElem_cons_zero, List.getElem_cons_succ, Act.put, List.setIfInBounds_toArray, List.set_cons_zero, List.set_cons_succ]
            refine wpAnyH_take (i := 10) (v := .bool true) rfl (by kernel_rfl) (by kernel_rfl) (by kernel_rfl) (fun _ _ _ h => h) (Or.inl ⟨by rfl, fun w hS => by obtain ⟨z0, z1, z2, z3, z4, z5, z6, z7⟩ := hS; go_simp⟩) ⟨z0, z1, z2, z3, z4, z5, z6, z7⟩ ?_
            simp only [List.getElem_toArray, List.getElem_cons_zero, List.getElem_cons_succ, Act.put, List.setIfInBounds_toArray, List.set_cons_zero, List.set_cons_succ]
            refine wpAnyH_take (i := 11) (v := .bool true) rfl (by kernel_rfl) (by kernel_rfl) (by kernel_rfl) (fun _ _ _ h => h) (Or.inl ⟨by rfl, fun w hS => by obtain ⟨z0, z1, z2, z3, z4, z5, z6, z7⟩ := hS; go_simp⟩) ⟨z0, z1, z2, z3, z4, z5, z6, z7⟩ ?_
            simp only [List.getElem_toArray, List.getElem_cons_zero, List.getElem_cons_succ, Act.put, List.setIfInBounds_toArray, List.set_cons_zero, List.set_cons_succ]
            refine wpAnyH_take (i := 12) (v := .agg #[.int .i64 i', .slice al2 ls'.length cl2, .slice aa2 xs'.length ca2, .slice ab2 bs'.length cb2]) rfl (by kernel_rfl) (by kernel_rfl) (by kernel_rfl) (fun _ _ _ h => h) (Or.inl ⟨by rfl, fun w hS => by obtain ⟨z0, z1, z2, z3, z4, z5, z6, z7⟩ := hS; go_simp⟩) ⟨z0, z1, z2, z3, z4, z5, z6, z7⟩ ?_
            simp only [List.getElem_toArray, List.getElem_cons_zero, List.getElem_cons_succ, Act.put, List.setIfInBounds_toArray, List.set_cons_zero, List.set_cons_succ]
            refine wpAnyH_take (i := 14) (v := .agg #[.int .i64 i', .slice al2 ls'.length cl2, .slice aa2 xs'.length ca2, .slice ab2 bs'.length cb2]) rfl (by kernel_rfl) (by kernel_rfl) (by kernel_rfl) (fun _ _ _ h => h) (Or.inl ⟨by rfl, fun w hS => by obtain ⟨z0, z1, z2, z3, z4, z5, z6, z7⟩ := hS; go_simp⟩) ⟨z0, z1, z2, z3, z4, z5, z6, z7⟩ ?_
            simp only [List.getElem_toArray, List.getElem_cons_zero, List.getElem_cons_succ, Act.put, List.setIfInBounds_toArray, List.set_cons_zero, List.set_cons_succ]
            refine oneH (i := 13) (by kernel_rfl) rfl (by rfl) ?_
            simp only [List.getElem_toArray, List.getElem_cons_zero, List.getElem_cons_succ]
            go_simp
            refine (implAigLess_any i' al2 aa2 ab2 cl2 ca2 cb2 ls' xs' bs' _ (HXC.out _ (belNext HBW2.out HBA.out)) J1.out J2.out J3.out).mono ?_
            rintro e wB ⟨i3, ls3, xs3, bs3, hIL3, al3, aa3, ab3, cl3, ca3, cb3, rfl, r1, r2, r3, hbB⟩
            obtain ⟨rfl, rfl, rfl, rfl⟩ := HSAME.out.uniq hIL3 (fun _ => h0)
            have HC3 := hideN (LessPost.isCir (inp := i') r1 r2 r3 (by unfold maxLen; omega) (by unfold maxLen; omega) (by unfold maxLen; omega))
            have HBB : Hid (Below G.heap.size G wB) := belNext HBA.out hbB
            clear hbB r1 r2 r3 hIL3 z0 z1 z2 z3 z4 z5 z6 z7
            obtain ⟨z0, z1, z2, z3, z4, z5, z6, z7⟩ := HCL.out wB HBB.out
            refine ⟨⟨z0, z1, z2, z3, z4, z5, z6, z7⟩, ?_⟩
            refine oneH (i := 15) (by kernel_rfl) rfl (by rfl) ?_
            simp only [List.getElem_toArray, List.getElem_cons_zero, List.getElem_cons_succ]
            go_simp
            refine (rgAig_same i' _ _ _ _ _ _ _ _ _ _ _ _ ls' xs' bs' _ HC3.out (HXC.out _ (belNext HBW2.out HBB.out)) (by omega) (by omega) (by omega)).mono ?_
            rintro e wC ⟨rfl, hbC⟩
            have HBC : Hid (Below G.heap.size G wC) := belNext HBB.out hbC
            clear hbC z0 z1 z2 z3 z4 z5 z6 z7
            obtain ⟨z0, z1, z2, z3, z4, z5, z6, z7⟩ := HCL.out wC HBC.out
            refine ⟨⟨z0, z1, z2, z3, z4, z5, z6, z7⟩, ?_⟩
            refine wpAnyH_take (i := 16) (v := .bool true) rfl (by kernel_rfl) (by kernel_rfl) (by kernel_rfl) (fun _ _ _ h => h) (Or.inl ⟨by rfl, fun w hS => by obtain ⟨z0, z1, z2, z3, z4, z5, z6, z7⟩ := hS; go_simp⟩) ⟨z0, z1, z2, z3, z4, z5, z6, z7⟩ ?_
            simp only [List.getElem_toArray, List.getElem_cons_zero, List.getElem_cons_succ, Act.put, List.setIfInBounds_toArray, List.set_cons_zero, List.set_cons_succ]
            refine wpAnyH_take (i := 17) (v := .bool true) rfl (by kernel_rfl) (by kernel_rfl) (by kernel_rfl) (fun _ _ _ h => h) (Or.inl ⟨by rfl, fun w hS => by obtain ⟨z0, z1, z2, z3, z4, z5, z6, z7⟩ := hS; go_simp⟩) ⟨z0, z1, z2, z3, z4, z5, z6, z7⟩ ?_
            simp only [List.getElem_toArray, List.getElem_cons_zero, List.getElem_cons_succ, Act.put, List.setIfInBounds_toArray, List.set_cons_zero, List.set_cons_succ]
            refine wpAnyH_take (i := 18) (v := .agg #[.int .i64 i', .slice al2 ls'.length cl2, .slice aa2 xs'.length ca2, .slice ab2 bs'.length cb2]) rfl (by kernel_rfl) (by kernel_rfl) (by kernel_rfl) (fun _ _ _ h => h) (Or.inl ⟨by rfl, fun w hS => by obtain ⟨z0, z1, z2, z3, z4, z5, z6, z7⟩ := hS; go_simp⟩) ⟨z0, z1, z2, z3, z4, z5, z6, z7⟩ ?_
            simp only [List.getElem_toArray, List.getElem_cons_zero, List.getElem_cons_succ, Act.put, List.setIfInBounds_toArray, List.set_cons_zero, List.set_cons_succ]
            refine wpAnyH_take (i := 19) (v := .slice ao rows.length cap) rfl (by kernel_rfl) (by kernel_rfl) (by kernel_rfl) (fun _ _ _ h => h) (Or.inl ⟨by rfl, fun w hS => by obtain ⟨z0, z1, z2, z3, z4, z5, z6, z7⟩ := hS; go_simp⟩) ⟨z0, z1, z2, z3, z4, z5, z6, z7⟩ ?_
            simp only [List.getElem_toArray, List.getElem_cons_zero, List.getElem_cons_succ, Act.put, List.setIfInBounds_toArray, List.set_cons_zero, List.set_cons_succ]
            refine wpAnyH_take (i := 21) (v := .agg #[.int .i64 i', .slice al ls.length cl, .slice aa xs.length ca, .slice ab cs.length cb]) rfl (by kernel_rfl) (by kernel_rfl) (by kernel_rfl) (fun _ _ _ h => h) (Or.inl ⟨by rfl, fun w hS => by obtain ⟨z0, z1, z2, z3, z4, z5, z6, z7⟩ := hS; go_simp⟩) ⟨z0, z1, z2, z3, z4, z5, z6, z7⟩ ?_
            simp only [List.getElem_toArray, List.getElem_cons_zero, List.getElem_cons_succ, Act.put, List.setIfInBounds_toArray, List.set_cons_zero, List.set_cons_succ]
            refine wpAnyH_take (i := 22) (v := .slice ao rows.length cap) rfl (by kernel_rfl) (by kernel_rfl) (by kernel_rfl) (fun _ _ _ h => h) (Or.inl ⟨by rfl, fun w hS => by obtain ⟨z0, z1, z2, z3, z4, z5, z6, z7⟩ := hS; go_simp⟩) ⟨z0, z1, z2, z3, z4, z5, z6, z7⟩ ?_
            simp only [List.getElem_toArray, List.getElem_cons_zero, List.getElem_cons_succ, Act.put, List.setIfInBounds_toArray, List.set_cons_zero, List.set_cons_succ]
            refine oneH (i := 20) (by kernel_rfl) rfl (by rfl) ?_
            simp only [List.getElem_toArray, List.getElem_cons_zero, List.getElem_cons_succ]
            go_simp
            refine (implAigRun_any i' al2 aa2 ab2 cl2 ca2 cb2 ls' xs' bs' ao cap rows _ (HXC.out _ (belNext HBW2.out HBC.out)) (HRO.out _ HBC.out) J1.out J2.out J3.out HSU.out).mono ?_
            rintro e wD ⟨he, hbD⟩
            rw [HR2.out] at he
            subst he
            have HBD : Hid (Below G.heap.size G wD) := belNext HBC.out hbD
            clear hbD z0 z1 z2 z3 z4 z5 z6 z7
            obtain ⟨z0, z1, z2, z3, z4, z5, z6, z7⟩ := HCL.out wD HBD.out
            refine ⟨⟨z0, z1, z2, z3, z4, z5, z6, z7⟩, ?_⟩
            refine oneH (i := 23) (by kernel_rfl) rfl (by rfl) ?_
            simp only [List.getElem_toArray, List.getElem_cons_zero, List.getElem_cons_succ]
            go_simp
            refine (implAigRun_any i' al aa ab cl ca cb ls xs cs ao cap rows _ (HV.out _ (belNext HB2.out (belNext HBW2.out HBD.out))) (HRO.out _ HBD.out) L64.out A64.out B64.out HSU.out).mono ?_
            rintro e wE ⟨he, hbE⟩
            rw [HR1.out] at he
            subst he
            have HBF : Hid (Below G.heap.size G wE) := belNext HBD.out hbE
            clear hbE z0 z1 z2 z3 z4 z5 z6 z7
            obtain ⟨z0, z1, z2, z3, z4, z5, z6, z7⟩ := HCL.out wE HBF.out
            refine ⟨⟨z0, z1, z2, z3, z4, z5, z6, z7⟩, ?_⟩
            refine wpAnyH_take (i := 24) (v := .bool true) rfl (by kernel_rfl) (by kernel_rfl) (by kernel_rfl) (fun _ _ _ h => h) (Or.inl ⟨by rfl, fun w hS => by obtain ⟨z0, z1, z2, z3, z4, z5, z6, z7⟩ := hS; go_simp⟩) ⟨z0, z1, z2, z3, z4, z5, z6, z7⟩ ?_
            simp only [List.getElem_toArray, List.getElem_cons_zero, List.getElem_cons_succ, Act.put, List.setIfInBounds_toArray, List.set_cons_zero, List.set_cons_succ]
            refine wpAnyH_take (i := 25) (v := .bool true) rfl (by kernel_rfl) (by kernel_rfl) (by kernel_rfl) (fun _ _ _ h => h) (Or.inl ⟨by rfl, fun w hS => by obtain ⟨z0, z1, z2, z3, z4, z5, z6, z7⟩ := hS; go_simp⟩) ⟨z0, z1, z2, z3, z4, z5, z6, z7⟩ ?_
            simp only [List.getElem_toArray, List.getElem_cons_zero, List.getElem_cons_succ, Act.put, List.setIfInBounds_toArray, List.set_cons_zero, List.set_cons_succ]
            refine wpAnyH_take (i := 26) (v := .bool true) rfl (by kernel_rfl) (by kernel_rfl) (by kernel_rfl) (fun _ _ _ h => h) (Or.inl ⟨by rfl, fun w hS => by obtain ⟨z0, z1, z2, z3, z4, z5, z6, z7⟩ := hS; go_simp⟩) ⟨z0, z1, z2, z3, z4, z5, z6, z7⟩ ?_
            simp only [List.getElem_toArray, List.getElem_cons_zero, List.getElem_cons_succ, Act.put, List.setIfInBounds_toArray, List.set_cons_zero, List.set_cons_succ]
            refine wpAnyH_done (by kernel_rfl) ?_ _
            go_wp2_with fail
            go_ret
            exact ⟨rfl, belNext HGB.out HBF.out⟩

end Go.Proofs.Ytbdjdgamnnifjaa
