/-
  The law FnBddTwo: of two drawn diagrams and a sign, what is put together is of each way what both say; it does not matter which is first; with itself it is itself, or always. No condition: every argument that can be read.
-/
import Derived.Test.YtmkbcfiechoebaaBdPg
import Derived.Test.YtmkbcfiechoebaaBdDy
import Derived.Test.YtmkbcfiechoebaaOpenB
namespace Go.Proofs.Ytmkbcfiechoebaa
open Go.ChangeShapes Go.WideShapes Go.ChangeAt Go.RowKit Go.Deep Go.Joins
set_option linter.unusedVariables false

attribute [local go_sem] Oper.semAt_some

theorem twoA_fits {sg : ByteArray} {va ra vb rb : Int} {na nb : List Nd} {t : List Bool} : (∀ p ∈ (ansOf (twoB sg va na ra vb nb rb) va t).2.1, FitN p) ∧ (ansOf (twoB sg va na ra vb nb rb) va t).2.1.length ≤ 64 := by
  cases h : twoB sg va na ra vb nb rb with
  | false => simp [ansOf]
  | true =>
    obtain ⟨V, op, rfl, _, _, ha, _⟩ := twoB_split h
    have hd := draw_fit (t := t) (bdd_fits ha).1
    unfold ansOf
    rw [if_pos rfl, Int.toNat_natCast]
    exact ⟨hd.1, hd.2.1⟩

set_option maxRecDepth 100000 in
set_option maxHeartbeats 16000000 in
theorem fnBddTwo_walk (v : Value) (bs : List Int) (w : World) (hv : IsBytes w v bs) (hal : ∀ ao n cap b off, v = .slice ao n cap → ao = some ⟨b, off, none⟩ → b < w.heap.size) (hml : bs.length ≤ maxLen) :
    Calls Try.prog 5 #[v] w fun e w' => e = .returned (.bool true) ∧ Below w.heap.size w w' := by
  unfold maxLen at hml
  have HDR := hideN (fun (h : bs.length ≤ 1048576) => drawBddTwo_any v bs w hv h hal)
  obtain ⟨aoc, capc, rfl, _⟩ := hv
  clear hal
  by_cases hbig : bs.length ≤ 1048576
  case neg =>
    have d1 : decide ((1048576 : Int) < (bs.length : Int)) = true := by simp; omega
    go_enter Try.func5, Try.ntmps5
    go_wp2_with fail
    go_ret
    exact ⟨rfl, Below.refl _ _⟩
  have d1 : decide ((1048576 : Int) < (bs.length : Int)) = false := by simp; omega
  have HDW := hideN (HDR.out hbig)
  clear HDR
  go_enter Try.func5, Try.ntmps5
  go_wp2_with fail
  refine HDW.out.mono ?_
  rintro e w0 ⟨sg, va, ra, ao, n, cap, na, vb, rb, bo, n2, cap2, nb, rfl, ⟨hsva, hsra, hn80, hnl, hsm⟩, ⟨hsvb, hsrb, hn280, hnl2, hsm2⟩, hrow, hrow2, hb0⟩
  obtain ⟨V1, hV1⟩ : ∃ V1, V1 = (w0.alloc (.cells #[.int .i64 va, .slice ao n cap, .int .i64 ra] 28)).alloc (.cells #[.int .i64 vb, .slice bo n2 cap2, .int .i64 rb] 28) := ⟨_, rfl⟩
  have hb01 : Below w0.heap.size w0 V1 := by rw [hV1]; exact belNext (belOne _ _) (belOne _ _)
  have HKA : Hid (BlkD V1 w0.heap.size (.int .i64 va) (.slice ao n cap) (.int .i64 ra)) := by rw [hV1]; exact (BlkD.new _ _ _ _).below (belOne _ _)
  have HKB : Hid (BlkD V1 (w0.heap.size + 1) (.int .i64 vb) (.slice bo n2 cap2) (.int .i64 rb)) := by
    have h := BlkD.new (w0.alloc (.cells #[.int .i64 va, .slice ao n cap, .int .i64 ra] 28)) (.int .i64 vb) (.slice bo n2 cap2) (.int .i64 rb)
    rw [World.size_alloc, ← hV1] at h
    exact h
  have HBW1 := hideN (belNext hb0 hb01)
  have hNA1 : Nds V1 ao n cap na := (nds_of_own hrow hnl).below hb01
  have hNB1 : Nds V1 bo n2 cap2 nb := (nds_of_own hrow2 hnl2).below hb01
  have HNA := hideN (fun V' (hV : Below V1.heap.size V1 V') => hNA1.below hV)
  have HNB := hideN (fun V' (hV : Below V1.heap.size V1 V') => hNB1.below hV)
  have ha64 : ∀ q ∈ na, I64N q := fun q hq => smN64 (hsm q hq)
  have hb64 : ∀ q ∈ nb, I64N q := fun q hq => smN64 (hsm2 q hq)
  have HIT := hideN (implBddTwo_any sg va ra vb rb ao bo n cap n2 cap2 na nb V1 hNA1 ha64 (sm64 hsra) hNB1 hb64 (sm64 hsrb))
  have HST := hideN (fun V' (hV : Below V1.heap.size V1 V') => specBddTwo_any sg va ra vb rb ao bo n cap n2 cap2 na nb V' (HNA.out V' hV) ha64 (sm64 hsra) (HNB.out V' hV) hb64 (sm64 hsrb) (by omega) (by omega))
  have HFI := hideN (twoA_fits (sg := sg) (va := va) (ra := ra) (vb := vb) (rb := rb) (na := na) (nb := nb) (t := twoT (twoOp sg) va na ra nb rb))
  obtain ⟨P, hP⟩ : ∃ P, ansOf (twoB sg va na ra vb nb rb) va (twoT (twoOp sg) va na ra nb rb) = P := ⟨_, rfl⟩
  obtain ⟨f, hf⟩ : ∃ f, twoB sg va na ra vb nb rb = f := ⟨_, rfl⟩
  rw [hP] at HIT HST HFI
  rw [hf] at HIT HST
  obtain ⟨fv, l, fr⟩ := P
  have HP := hideN hP
  have HF := hideN hf
  have HV1 := hideN hV1
  have HLA := hideN hnl
  have HLB := hideN hnl2
  clear hb01 hNA1 hNB1 hsm hsm2 hsra hsrb hnl hnl2 hV1 hrow hrow2 hb0 hsva hsvb HDW ha64 hb64 hP hf
  go_wp2_with fail
  try rw [← HV1.out]
  obtain ⟨B, hB⟩ : ∃ B, w0.heap.size + 1 = B := ⟨_, rfl⟩
  rw [hB] at HKB
  try rw [hB]
  obtain ⟨A, hA⟩ : ∃ A, w0.heap.size = A := ⟨_, rfl⟩
  rw [hA] at HKA
  try rw [hA]
  clear hA hB
  have HC1 : Hid (∀ V', Below V1.heap.size V1 V' → V'.cell? ⟨A, 0, none⟩ = some (.int .i64 va) ∧ V'.cell? ⟨A, 1, none⟩ = some (.slice ao n cap) ∧ V'.cell? ⟨A, 2, none⟩ = some (.int .i64 ra) ∧ V'.cell? ⟨B, 0, none⟩ = some (.int .i64 vb) ∧ V'.cell? ⟨B, 1, none⟩ = some (.slice bo n2 cap2) ∧ V'.cell? ⟨B, 2, none⟩ = some (.int .i64 rb)) := fun V' hV => ⟨(HKA.out.below hV).c0, (HKA.out.below hV).c1, (HKA.out.below hV).c2, (HKB.out.below hV).c0, (HKB.out.below hV).c1, (HKB.out.below hV).c2⟩
  obtain ⟨a0, a1, a2, b0, b1, b2⟩ := HC1.out V1 (Below.refl _ _)
  refine (HIT.out).mono ?_
  rintro e w2 ⟨s2, m2, d2, rfl, hm2, hr2, hb2⟩
  have HM2 := hideN hm2
  obtain ⟨V2, hV2⟩ : ∃ V2, V2 = w2.alloc (.cells #[.int .i64 fv, .slice s2 m2 d2, .int .i64 fr] 28) := ⟨_, rfl⟩
  have hb2' : Below w2.heap.size w2 V2 := by rw [hV2]; exact belOne _ _
  have HQ2 : Hid (BlkD V2 w2.heap.size (.int .i64 fv) (.slice s2 m2 d2) (.int .i64 fr)) := by rw [hV2]; exact BlkD.new _ _ _ _
  have HBV2 := hideN (belNext hb2 hb2')
  have HN20 := hideN (nds_of_own (row_below hr2 hb2') HM2.out)
  have HN2 := hideN (fun V' (hV : Below V2.heap.size V2 V') => HN20.out.below hV)
  have HCw := hideN (HC1.out w2 hb2)
  have HV2 := hideN hV2
  clear a0  a1  a2  b0  b1  b2 hb2 hb2' hr2 hV2 HN20
  obtain ⟨a0, a1, a2, b0, b1, b2⟩ := HCw.out
  clear HCw
  have ltA : A < w2.heap.size := cell_lt a0
  have ltB : B < w2.heap.size := cell_lt b0
  go_wp2_with fail
  try rw [← HV2.out]
  clear a0  a1  a2  b0  b1  b2 ltA ltB
  obtain ⟨X, hX⟩ : ∃ X, w2.heap.size = X := ⟨_, rfl⟩
  rw [hX] at HQ2
  try rw [hX]
  have HC2 : Hid (∀ V', Below V2.heap.size V2 V' → V'.cell? ⟨A, 0, none⟩ = some (.int .i64 va) ∧ V'.cell? ⟨A, 1, none⟩ = some (.slice ao n cap) ∧ V'.cell? ⟨A, 2, none⟩ = some (.int .i64 ra) ∧ V'.cell? ⟨B, 0, none⟩ = some (.int .i64 vb) ∧ V'.cell? ⟨B, 1, none⟩ = some (.slice bo n2 cap2) ∧ V'.cell? ⟨B, 2, none⟩ = some (.int .i64 rb) ∧ V'.cell? ⟨X, 0, none⟩ = some (.int .i64 fv) ∧ V'.cell? ⟨X, 1, none⟩ = some (.slice s2 m2 d2) ∧ V'.cell? ⟨X, 2, none⟩ = some (.int .i64 fr)) := fun V' hV => by
    obtain ⟨a0, a1, a2, b0, b1, b2⟩ := HC1.out V' (belNext HBV2.out hV)
    exact ⟨a0, a1, a2, b0, b1, b2, (HQ2.out.below hV).c0, (HQ2.out.below hV).c1, (HQ2.out.below hV).c2⟩
  clear hX
  obtain ⟨a0, a1, a2, b0, b1, b2, x0, x1, x2⟩ := HC2.out V2 (Below.refl _ _)
  refine (HST.out V2 HBV2.out).mono ?_
  rintro e w3 ⟨s3, m3, d3, rfl, hm3, hr3, hb3⟩
  have hm32 : m2 = m3 := by rw [← hm3, HM2.out]
  subst hm32
  have HM3 := hideN hm3
  obtain ⟨V3, hV3⟩ : ∃ V3, V3 = w3.alloc (.cells #[.int .i64 fv, .slice s3 m2 d3, .int .i64 fr] 28) := ⟨_, rfl⟩
  have hb3' : Below w3.heap.size w3 V3 := by rw [hV3]; exact belOne _ _
  have HQ3 : Hid (BlkD V3 w3.heap.size (.int .i64 fv) (.slice s3 m2 d3) (.int .i64 fr)) := by rw [hV3]; exact BlkD.new _ _ _ _
  have HBV3 := hideN (belNext hb3 hb3')
  have HN30 := hideN (nds_of_own (row_below hr3 hb3') HM3.out)
  have HN3 := hideN (fun V' (hV : Below V3.heap.size V3 V') => HN30.out.below hV)
  have HCw := hideN (HC2.out w3 hb3)
  have HV3 := hideN hV3
  clear a0  a1  a2  b0  b1  b2  x0  x1  x2 hb3 hb3' hr3 hV3 HN30
  obtain ⟨a0, a1, a2, b0, b1, b2, x0, x1, x2⟩ := HCw.out
  clear HCw
  have ltA : A < w3.heap.size := cell_lt a0
  have ltB : B < w3.heap.size := cell_lt b0
  have ltX : X < w3.heap.size := cell_lt x0
  go_wp2_with fail
  try rw [← HV3.out]
  clear a0  a1  a2  b0  b1  b2  x0  x1  x2 ltA ltB ltX
  obtain ⟨E, hE⟩ : ∃ E, w3.heap.size = E := ⟨_, rfl⟩
  rw [hE] at HQ3
  try rw [hE]
  have HC3 : Hid (∀ V', Below V3.heap.size V3 V' → V'.cell? ⟨A, 0, none⟩ = some (.int .i64 va) ∧ V'.cell? ⟨A, 1, none⟩ = some (.slice ao n cap) ∧ V'.cell? ⟨A, 2, none⟩ = some (.int .i64 ra) ∧ V'.cell? ⟨B, 0, none⟩ = some (.int .i64 vb) ∧ V'.cell? ⟨B, 1, none⟩ = some (.slice bo n2 cap2) ∧ V'.cell? ⟨B, 2, none⟩ = some (.int .i64 rb) ∧ V'.cell? ⟨X, 0, none⟩ = some (.int .i64 fv) ∧ V'.cell? ⟨X, 1, none⟩ = some (.slice s2 m2 d2) ∧ V'.cell? ⟨X, 2, none⟩ = some (.int .i64 fr) ∧ V'.cell? ⟨E, 0, none⟩ = some (.int .i64 fv) ∧ V'.cell? ⟨E, 1, none⟩ = some (.slice s3 m2 d3) ∧ V'.cell? ⟨E, 2, none⟩ = some (.int .i64 fr)) := fun V' hV => by
    obtain ⟨a0, a1, a2, b0, b1, b2, x0, x1, x2⟩ := HC2.out V' (belNext HBV3.out hV)
    exact ⟨a0, a1, a2, b0, b1, b2, x0, x1, x2, (HQ3.out.below hV).c0, (HQ3.out.below hV).c1, (HQ3.out.below hV).c2⟩
  clear hE
  obtain ⟨a0, a1, a2, b0, b1, b2, x0, x1, x2, e0, e1, e2⟩ := HC3.out V3 (Below.refl _ _)
  have HB13 := hideN (belNext HBV2.out HBV3.out)
  have HRG := hideN (fun V' (hV : Below V3.heap.size V3 V') => rgBdd_ok (va := fv) (ra := fr) (HN2.out V' (belNext HBV3.out hV)) (HN3.out V' hV) HFI.out)
  clear a0  a1  a2  b0  b1  b2  x0  x1  x2  e0  e1  e2
  obtain ⟨a0, a1, a2, b0, b1, b2, x0, x1, x2, e0, e1, e2⟩ := HC3.out V3 (Below.refl _ _)
  go_wp2_with fail
  refine (HRG.out V3 (Below.refl _ _)).mono ?_
  rintro e w4 ⟨rfl, hb4⟩
  have HB34 := hideN hb4
  clear hb4 a0  a1  a2  b0  b1  b2  x0  x1  x2  e0  e1  e2
  obtain ⟨a0, a1, a2, b0, b1, b2, x0, x1, x2, e0, e1, e2⟩ := HC3.out w4 HB34.out
  cases f with
  | false =>
    go_wp2_with fail
    refine (HRG.out w4 HB34.out).mono ?_
    rintro e w5 ⟨rfl, hb5⟩
    have HBE := hideN (belNext HBW1.out (belNext HB13.out (belNext HB34.out hb5)))
    clear hb5
    go_wp2_with fail
    go_ret
    exact ⟨rfl, HBE.out⟩
  | true =>
    obtain ⟨V, op, rfl, rfl, hop, hba, hbb⟩ := twoB_split HF.out
    have hfa := bdd_fits hba
    have hfb := bdd_fits hbb
    have h6 := hfa.1
    have hp := HP.out
    rw [HF.out] at hp
    unfold ansOf twoOp at hp
    rw [if_pos rfl, hop, Int.toNat_natCast, Option.getD_some] at hp
    simp only [Prod.mk.injEq] at hp
    obtain ⟨e1, e2, e3⟩ := hp
    subst e1
    have hbx : bddB (V : Int) l fr = true := by rw [← e2, ← e3]; exact two_ok hba
    have HTA : Hid (∀ V', Below V1.heap.size V1 V' → Calls Try.prog 23 #[.string sg, .agg #[.int .i64 (V : Int), .slice bo n2 cap2, .int .i64 rb], .agg #[.int .i64 (V : Int), .slice ao n cap, .int .i64 ra]] V' (TwoPost ((V : Int), l, fr) true V')) := fun V' hV => by
      have h := implTwo_ok hop (HNB.out V' hV) (HNA.out V' hV) hbb hba
      rw [two_swap (op_swap hop), e2, e3] at h
      exact h
    have HTZ := hideN (fun V' (hV : Below V1.heap.size V1 V') => implTwo_ok hop (HNA.out V' hV) (HNA.out V' hV) hba hba)
    have HZ : Hid (bddB (V : Int) (drawB V 0 (twoT op (V : Int) na ra na ra) []).1 (drawB V 0 (twoT op (V : Int) na ra na ra) []).2 = true) := two_ok hba
    have HZI := hideN (fun (hi : ∀ x, op x x = x) => two_id hba hi)
    have HZT := hideN (fun (hi : ∀ x, op x x = true) => two_all (V := V) (na := na) (ra := ra) hi)
    have HREL : Hid (∀ p, p < 2 ^ V → (tabN V l fr).getD p false = op ((tabN V na ra).getD p false) ((tabN V nb rb).getD p false)) := fun p hp => by
      have h := two_get (op := op) (na := na) (nb := nb) (ra := ra) (rb := rb) hp
      rw [e2, e3] at h
      exact h
    have HXT := hideN (fun V' (hV : Below V2.heap.size V2 V') => implTable_ok (HN2.out V' hV) hbx)
    have HAT := hideN (fun V' (hV : Below V1.heap.size V1 V') => implTable_ok (HNA.out V' hV) hba)
    have HBT := hideN (fun V' (hV : Below V1.heap.size V1 V') => implTable_ok (HNB.out V' hV) hbb)
    have hl1 := tabN_length V l fr
    have hl2 := tabN_length V na ra
    have hl3 := tabN_length V nb rb
    generalize tabN V l fr = T at *
    generalize tabN V na ra = P at *
    generalize tabN V nb rb = Q at *
    have hMp : 2 ^ V ≤ 64 := by show _ ≤ 2 ^ 6; exact Nat.pow_le_pow_right (by decide) h6
    have hM0 : 0 < 2 ^ V := Nat.pow_pos (by decide)
    obtain ⟨M, hM⟩ : ∃ M, 2 ^ V = M := ⟨_, rfl⟩
    rw [hM] at hl1 hl2 hl3 hMp hM0 HREL
    have HL1 := hideN hl1
    have HL2 := hideN hl2
    have HL3 := hideN hl3
    have HFA : Hid ((∀ p ∈ na, FitN p) ∧ na.length ≤ 64) := ⟨hfa.2.1, hfa.2.2.1⟩
    have HOP := hideN hop
    clear hM hl1 hl2 hl3 e2 e3 HP HF HIT HST hfa hfb hbx hba hbb hop
    generalize drawB V 0 (twoT op (V : Int) na ra na ra) [] = DZ at *
    obtain ⟨lz, rz⟩ := DZ
    simp only at HTZ HZ HZI HZT
    have hb14 := belNext HB13.out HB34.out
    have HBV4 := hideN HB34.out
    have HB14 := hideN hb14
    have HC4 := hideN (fun V' (hV : Below w4.heap.size w4 V') => HC3.out V' (belNext HB34.out hV))
    clear hb14
    go_wp2_with fail
    refine (HTA.out w4 HB14.out).mono ?_
    rintro e w5 ⟨s5, m5, d5, rfl, hm5, hr5, hb5⟩
    have hm52 : m2 = m5 := by rw [← hm5, HM2.out]
    subst hm52
    have HM5 := hideN hm5
    obtain ⟨V5, hV5⟩ : ∃ V5, V5 = w5.alloc (.cells #[.int .i64 (V : Int), .slice s5 m2 d5, .int .i64 fr] 28) := ⟨_, rfl⟩
    have hb5' : Below w5.heap.size w5 V5 := by rw [hV5]; exact belOne _ _
    have HQ5 : Hid (BlkD V5 w5.heap.size (.int .i64 (V : Int)) (.slice s5 m2 d5) (.int .i64 fr)) := by rw [hV5]; exact BlkD.new _ _ _ _
    have HBV5 := hideN (belNext hb5 hb5')
    have HN50 := hideN (nds_of_own (row_below hr5 hb5') HM5.out)
    have HN5 := hideN (fun V' (hV : Below V5.heap.size V5 V') => HN50.out.below hV)
    have HCw := hideN (HC4.out w5 hb5)
    have HV5 := hideN hV5
    clear a0  a1  a2  b0  b1  b2  x0  x1  x2  e0  e1  e2 hb5 hb5' hr5 hV5 HN50
    obtain ⟨a0, a1, a2, b0, b1, b2, x0, x1, x2, e0, e1, e2⟩ := HCw.out
    clear HCw
    have ltA : A < w5.heap.size := cell_lt a0
    have ltB : B < w5.heap.size := cell_lt b0
    have ltX : X < w5.heap.size := cell_lt x0
    have ltE : E < w5.heap.size := cell_lt e0
    go_wp2_with fail
    try rw [← HV5.out]
    clear a0  a1  a2  b0  b1  b2  x0  x1  x2  e0  e1  e2 ltA ltB ltX ltE
    obtain ⟨Y, hY⟩ : ∃ Y, w5.heap.size = Y := ⟨_, rfl⟩
    rw [hY] at HQ5
    try rw [hY]
    have HC5 : Hid (∀ V', Below V5.heap.size V5 V' → V'.cell? ⟨A, 0, none⟩ = some (.int .i64 (V : Int)) ∧ V'.cell? ⟨A, 1, none⟩ = some (.slice ao n cap) ∧ V'.cell? ⟨A, 2, none⟩ = some (.int .i64 ra) ∧ V'.cell? ⟨B, 0, none⟩ = some (.int .i64 (V : Int)) ∧ V'.cell? ⟨B, 1, none⟩ = some (.slice bo n2 cap2) ∧ V'.cell? ⟨B, 2, none⟩ = some (.int .i64 rb) ∧ V'.cell? ⟨X, 0, none⟩ = some (.int .i64 (V : Int)) ∧ V'.cell? ⟨X, 1, none⟩ = some (.slice s2 m2 d2) ∧ V'.cell? ⟨X, 2, none⟩ = some (.int .i64 fr) ∧ V'.cell? ⟨E, 0, none⟩ = some (.int .i64 (V : Int)) ∧ V'.cell? ⟨E, 1, none⟩ = some (.slice s3 m2 d3) ∧ V'.cell? ⟨E, 2, none⟩ = some (.int .i64 fr) ∧ V'.cell? ⟨Y, 0, none⟩ = some (.int .i64 (V : Int)) ∧ V'.cell? ⟨Y, 1, none⟩ = some (.slice s5 m2 d5) ∧ V'.cell? ⟨Y, 2, none⟩ = some (.int .i64 fr)) := fun V' hV => by
      obtain ⟨a0, a1, a2, b0, b1, b2, x0, x1, x2, e0, e1, e2⟩ := HC4.out V' (belNext HBV5.out hV)
      exact ⟨a0, a1, a2, b0, b1, b2, x0, x1, x2, e0, e1, e2, (HQ5.out.below hV).c0, (HQ5.out.below hV).c1, (HQ5.out.below hV).c2⟩
    clear hY
    obtain ⟨a0, a1, a2, b0, b1, b2, x0, x1, x2, e0, e1, e2, y0, y1, y2⟩ := HC5.out V5 (Below.refl _ _)
    refine (HTZ.out V5 (belNext HB14.out HBV5.out)).mono ?_
    rintro e w6 ⟨s6, m6, d6, rfl, hm6, hr6, hb6⟩
    have HM6 := hideN hm6
    obtain ⟨V6, hV6⟩ : ∃ V6, V6 = w6.alloc (.cells #[.int .i64 (V : Int), .slice s6 m6 d6, .int .i64 rz] 28) := ⟨_, rfl⟩
    have hb6' : Below w6.heap.size w6 V6 := by rw [hV6]; exact belOne _ _
    have HQ6 : Hid (BlkD V6 w6.heap.size (.int .i64 (V : Int)) (.slice s6 m6 d6) (.int .i64 rz)) := by rw [hV6]; exact BlkD.new _ _ _ _
    have HBV6 := hideN (belNext hb6 hb6')
    have HN60 := hideN (nds_of_own (row_below hr6 hb6') HM6.out)
    have HN6 := hideN (fun V' (hV : Below V6.heap.size V6 V') => HN60.out.below hV)
    have HCw := hideN (HC5.out w6 hb6)
    have HV6 := hideN hV6
    clear a0  a1  a2  b0  b1  b2  x0  x1  x2  e0  e1  e2  y0  y1  y2 hb6 hb6' hr6 hV6 HN60
    obtain ⟨a0, a1, a2, b0, b1, b2, x0, x1, x2, e0, e1, e2, y0, y1, y2⟩ := HCw.out
    clear HCw
    have ltA : A < w6.heap.size := cell_lt a0
    have ltB : B < w6.heap.size := cell_lt b0
    have ltX : X < w6.heap.size := cell_lt x0
    have ltE : E < w6.heap.size := cell_lt e0
    have ltY : Y < w6.heap.size := cell_lt y0
    go_wp2_with fail
    try rw [← HV6.out]
    clear a0  a1  a2  b0  b1  b2  x0  x1  x2  e0  e1  e2  y0  y1  y2 ltA ltB ltX ltE ltY
    obtain ⟨Z, hZ⟩ : ∃ Z, w6.heap.size = Z := ⟨_, rfl⟩
    rw [hZ] at HQ6
    try rw [hZ]
    have HC6 : Hid (∀ V', Below V6.heap.size V6 V' → V'.cell? ⟨A, 0, none⟩ = some (.int .i64 (V : Int)) ∧ V'.cell? ⟨A, 1, none⟩ = some (.slice ao n cap) ∧ V'.cell? ⟨A, 2, none⟩ = some (.int .i64 ra) ∧ V'.cell? ⟨B, 0, none⟩ = some (.int .i64 (V : Int)) ∧ V'.cell? ⟨B, 1, none⟩ = some (.slice bo n2 cap2) ∧ V'.cell? ⟨B, 2, none⟩ = some (.int .i64 rb) ∧ V'.cell? ⟨X, 0, none⟩ = some (.int .i64 (V : Int)) ∧ V'.cell? ⟨X, 1, none⟩ = some (.slice s2 m2 d2) ∧ V'.cell? ⟨X, 2, none⟩ = some (.int .i64 fr) ∧ V'.cell? ⟨E, 0, none⟩ = some (.int .i64 (V : Int)) ∧ V'.cell? ⟨E, 1, none⟩ = some (.slice s3 m2 d3) ∧ V'.cell? ⟨E, 2, none⟩ = some (.int .i64 fr) ∧ V'.cell? ⟨Y, 0, none⟩ = some (.int .i64 (V : Int)) ∧ V'.cell? ⟨Y, 1, none⟩ = some (.slice s5 m2 d5) ∧ V'.cell? ⟨Y, 2, none⟩ = some (.int .i64 fr) ∧ V'.cell? ⟨Z, 0, none⟩ = some (.int .i64 (V : Int)) ∧ V'.cell? ⟨Z, 1, none⟩ = some (.slice s6 m6 d6) ∧ V'.cell? ⟨Z, 2, none⟩ = some (.int .i64 rz)) := fun V' hV => by
      obtain ⟨a0, a1, a2, b0, b1, b2, x0, x1, x2, e0, e1, e2, y0, y1, y2⟩ := HC5.out V' (belNext HBV6.out hV)
      exact ⟨a0, a1, a2, b0, b1, b2, x0, x1, x2, e0, e1, e2, y0, y1, y2, (HQ6.out.below hV).c0, (HQ6.out.below hV).c1, (HQ6.out.below hV).c2⟩
    clear hZ
    obtain ⟨a0, a1, a2, b0, b1, b2, x0, x1, x2, e0, e1, e2, y0, y1, y2, z0, z1, z2⟩ := HC6.out V6 (Below.refl _ _)
    have HB16 := hideN (belNext HB14.out (belNext HBV5.out HBV6.out))
    have HB26 := hideN (belNext HBV3.out (belNext HB34.out (belNext HBV5.out HBV6.out)))
    go_wp2_with fail
    refine (HXT.out V6 (belNext HB26.out (Below.refl V6.heap.size V6))).mono ?_
    rintro e w7 ⟨at7, ct7, rfl, ho7, hb7⟩
    obtain ⟨g7, rfl⟩ : ∃ g, at7 = some ⟨g, 0, none⟩ := by
      obtain ⟨g, cp, he, _⟩ := ho7.cons_form (by rw [HL1.out]; exact hM0)
      injection he with e1 e2 e3
      exact ⟨g, e1⟩
    rw [HL1.out] at ho7
    rw [HL1.out]
    have HT7 : Hid (∀ V', Below w7.heap.size w7 V' → ∀ i, i < M → V'.cell? ⟨g7, i, none⟩ = some (.bool (T.getD i false))) := fun V' hV i hi => (ownb_cell (ho7.below hV) (i := i) (by rw [HL1.out]; exact hi)).1
    have HB67 := hideN (belNext (Below.refl V6.heap.size V6) hb7)
    clear ho7 a0  a1  a2  b0  b1  b2  x0  x1  x2  e0  e1  e2  y0  y1  y2  z0  z1  z2
    obtain ⟨a0, a1, a2, b0, b1, b2, x0, x1, x2, e0, e1, e2, y0, y1, y2, z0, z1, z2⟩ := HC6.out w7 HB67.out
    clear hb7
    go_wp2_with fail
    refine (HAT.out w7 (belNext HB16.out HB67.out)).mono ?_
    rintro e w8 ⟨at8, ct8, rfl, ho8, hb8⟩
    obtain ⟨g8, rfl⟩ : ∃ g, at8 = some ⟨g, 0, none⟩ := by
      obtain ⟨g, cp, he, _⟩ := ho8.cons_form (by rw [HL2.out]; exact hM0)
      injection he with e1 e2 e3
      exact ⟨g, e1⟩
    rw [HL2.out] at ho8
    rw [HL2.out]
    have HT8 : Hid (∀ V', Below w8.heap.size w8 V' → ∀ i, i < M → V'.cell? ⟨g8, i, none⟩ = some (.bool (P.getD i false))) := fun V' hV i hi => (ownb_cell (ho8.below hV) (i := i) (by rw [HL2.out]; exact hi)).1
    have HB68 := hideN (belNext HB67.out hb8)
    clear ho8 a0  a1  a2  b0  b1  b2  x0  x1  x2  e0  e1  e2  y0  y1  y2  z0  z1  z2
    obtain ⟨a0, a1, a2, b0, b1, b2, x0, x1, x2, e0, e1, e2, y0, y1, y2, z0, z1, z2⟩ := HC6.out w8 HB68.out
    have HT7c := hideN hb8
    clear hb8
    go_wp2_with fail
    refine (HBT.out w8 (belNext HB16.out HB68.out)).mono ?_
    rintro e w9 ⟨at9, ct9, rfl, ho9, hb9⟩
    obtain ⟨g9, rfl⟩ : ∃ g, at9 = some ⟨g, 0, none⟩ := by
      obtain ⟨g, cp, he, _⟩ := ho9.cons_form (by rw [HL3.out]; exact hM0)
      injection he with e1 e2 e3
      exact ⟨g, e1⟩
    rw [HL3.out] at ho9
    rw [HL3.out]
    have HT9 : Hid (∀ V', Below w9.heap.size w9 V' → ∀ i, i < M → V'.cell? ⟨g9, i, none⟩ = some (.bool (Q.getD i false))) := fun V' hV i hi => (ownb_cell (ho9.below hV) (i := i) (by rw [HL3.out]; exact hi)).1
    have HB69 := hideN (belNext HB68.out hb9)
    clear ho9 a0  a1  a2  b0  b1  b2  x0  x1  x2  e0  e1  e2  y0  y1  y2  z0  z1  z2
    obtain ⟨a0, a1, a2, b0, b1, b2, x0, x1, x2, e0, e1, e2, y0, y1, y2, z0, z1, z2⟩ := HC6.out w9 HB69.out
    have HT8c := hideN hb9
    clear hb9
    have HTT := hideN (fun V' (hV : Below w9.heap.size w9 V') i (hi : i < M) => And.intro (HT7.out V' (belNext HT7c.out (belNext HT8c.out hV)) i hi) (And.intro (HT8.out V' (belNext HT8c.out hV) i hi) (HT9.out V' hV i hi)))
    clear HT7 HT8 HT9 HT7c HT8c HXT HAT HBT HTA HTZ HL1 HL2 HL3
    have HYX := hideN (fun V' (hV : Below w9.heap.size w9 V') => rgBdd_ok (va := (V : Int)) (ra := fr) (HN2.out V' (belNext HB26.out (belNext HB69.out hV))) (HN5.out V' (belNext HBV6.out (belNext HB69.out hV))) HFI.out)
    have HZN := hideN (fun V' (hV : Below w9.heap.size w9 V') => HN6.out V' (belNext HB69.out hV))
    have HAN := hideN (fun V' (hV : Below w9.heap.size w9 V') => HNA.out V' (belNext HB16.out (belNext HB69.out hV)))
    have HC9 := hideN (fun V' (hV : Below w9.heap.size w9 V') => HC6.out V' (belNext HB69.out hV))
    have HBW9 := hideN (belNext HBW1.out (belNext HB16.out HB69.out))
    clear HRG HN2 HN3 HN5 HN6 HNA HNB HC1 HC2 HC3 HC4 HC5 HC6 HB67 HB68 HB69 HKA HKB HQ2 HQ3 HQ5 HQ6 HV1 HV2 HV3 HV5 HV6 HB13 HB14 HB16 HB26 HB34 HBW1 HBV2 HBV3 HBV4 HBV5 HBV6
    rcases op_facts HOP.out with ⟨s1, s2, s3, rfl⟩ | ⟨s1, s2, s3, rfl⟩ | ⟨s1, s2, s3, rfl⟩
    · have hz := HZI.out (fun x => by cases x <;> rfl)
      simp only [Prod.mk.injEq] at hz
      obtain ⟨rfl, rfl⟩ := hz
      go_wp2_with fail
      go_loopw [17] (fun i wr => ∃ j : Nat, j ≤ M ∧ i = .int .i64 (j : Int) ∧ Hid (Below w9.heap.size w9 wr)) (fun i _ => M - (intOf i).toNat)
      case atStart => exact ⟨0, Nat.zero_le _, rfl, Below.refl _ _⟩
      case round =>
        obtain ⟨j, hj, rfl, HBR⟩ := hrel
        by_cases hlt : j < M
        · have ht := HTT.out wr HBR.out j hlt
          have h1 := ht.1
          have h2 := ht.2.1
          have h3 := ht.2.2
          rw [HREL.out j hlt] at h1
          clear ht
          go_wp2_with fail
          generalize P.getD j false = pb at *
          generalize Q.getD j false = qb at *
          cases pb with
          | false =>
            have h1 : wr.cell? ⟨g7, j, none⟩ = some (.bool false) := h1
            go_quiet (fail)
            go_wp2_with fail
            go_roundw
            case rel => exact ⟨j + 1, by omega, by go_num, belNext HBR.out (below_drewN (Below.refl _ _) _)⟩
            case measure => simp [intOf]; omega
          | true =>
            have h1 : wr.cell? ⟨g7, j, none⟩ = some (.bool qb) := h1
            go_quiet (fail)
            go_wp2_with fail
            go_roundw
            case rel => exact ⟨j + 1, by omega, by go_num, belNext HBR.out (below_drewN (Below.refl _ _) _)⟩
            case measure => simp [intOf]; omega
        · obtain rfl : j = M := by omega
          clear a0  a1  a2  b0  b1  b2  x0  x1  x2  e0  e1  e2  y0  y1  y2  z0  z1  z2
          obtain ⟨a0, a1, a2, b0, b1, b2, x0, x1, x2, e0, e1, e2, y0, y1, y2, z0, z1, z2⟩ := HC9.out wr HBR.out
          go_wp2_with fail
          refine (HYX.out wr HBR.out).mono ?_
          rintro e w10 ⟨rfl, hb10⟩
          have HB10 := hideN (belNext HBR.out hb10)
          clear hb10 a0  a1  a2  b0  b1  b2  x0  x1  x2  e0  e1  e2  y0  y1  y2  z0  z1  z2
          obtain ⟨a0, a1, a2, b0, b1, b2, x0, x1, x2, e0, e1, e2, y0, y1, y2, z0, z1, z2⟩ := HC9.out w10 HB10.out
          go_wp2_with fail
          refine (rgBdd_ok (va := (V : Int)) (ra := rz) (HZN.out w10 HB10.out) (HAN.out w10 HB10.out) HFA.out).mono ?_
          rintro e w11 ⟨rfl, hb11⟩
          have HBE := hideN (belNext HBW9.out (belNext HB10.out hb11))
          clear hb11
          go_wp2_with fail
          go_ret
          exact ⟨rfl, HBE.out⟩
    · have hz := HZI.out (fun x => by cases x <;> rfl)
      simp only [Prod.mk.injEq] at hz
      obtain ⟨rfl, rfl⟩ := hz
      go_wp2_with fail
      go_loopw [17] (fun i wr => ∃ j : Nat, j ≤ M ∧ i = .int .i64 (j : Int) ∧ Hid (Below w9.heap.size w9 wr)) (fun i _ => M - (intOf i).toNat)
      case atStart => exact ⟨0, Nat.zero_le _, rfl, Below.refl _ _⟩
      case round =>
        obtain ⟨j, hj, rfl, HBR⟩ := hrel
        by_cases hlt : j < M
        · have ht := HTT.out wr HBR.out j hlt
          have h1 := ht.1
          have h2 := ht.2.1
          have h3 := ht.2.2
          rw [HREL.out j hlt] at h1
          clear ht
          go_wp2_with fail
          generalize P.getD j false = pb at *
          generalize Q.getD j false = qb at *
          cases pb with
          | false =>
            have h1 : wr.cell? ⟨g7, j, none⟩ = some (.bool qb) := h1
            go_quiet (fail)
            go_wp2_with fail
            go_roundw
            case rel => exact ⟨j + 1, by omega, by go_num, belNext HBR.out (below_drewN (Below.refl _ _) _)⟩
            case measure => simp [intOf]; omega
          | true =>
            have h1 : wr.cell? ⟨g7, j, none⟩ = some (.bool true) := h1
            go_quiet (fail)
            go_wp2_with fail
            go_roundw
            case rel => exact ⟨j + 1, by omega, by go_num, belNext HBR.out (below_drewN (Below.refl _ _) _)⟩
            case measure => simp [intOf]; omega
        · obtain rfl : j = M := by omega
          clear a0  a1  a2  b0  b1  b2  x0  x1  x2  e0  e1  e2  y0  y1  y2  z0  z1  z2
          obtain ⟨a0, a1, a2, b0, b1, b2, x0, x1, x2, e0, e1, e2, y0, y1, y2, z0, z1, z2⟩ := HC9.out wr HBR.out
          go_wp2_with fail
          refine (HYX.out wr HBR.out).mono ?_
          rintro e w10 ⟨rfl, hb10⟩
          have HB10 := hideN (belNext HBR.out hb10)
          clear hb10 a0  a1  a2  b0  b1  b2  x0  x1  x2  e0  e1  e2  y0  y1  y2  z0  z1  z2
          obtain ⟨a0, a1, a2, b0, b1, b2, x0, x1, x2, e0, e1, e2, y0, y1, y2, z0, z1, z2⟩ := HC9.out w10 HB10.out
          go_wp2_with fail
          refine (rgBdd_ok (va := (V : Int)) (ra := rz) (HZN.out w10 HB10.out) (HAN.out w10 HB10.out) HFA.out).mono ?_
          rintro e w11 ⟨rfl, hb11⟩
          have HBE := hideN (belNext HBW9.out (belNext HB10.out hb11))
          clear hb11
          go_wp2_with fail
          go_ret
          exact ⟨rfl, HBE.out⟩
    · have hz := HZT.out (fun x => by cases x <;> rfl)
      simp only [Prod.mk.injEq] at hz
      obtain ⟨rfl, rfl⟩ := hz
      go_wp2_with fail
      go_loopw [17] (fun i wr => ∃ j : Nat, j ≤ M ∧ i = .int .i64 (j : Int) ∧ Hid (Below w9.heap.size w9 wr)) (fun i _ => M - (intOf i).toNat)
      case atStart => exact ⟨0, Nat.zero_le _, rfl, Below.refl _ _⟩
      case round =>
        obtain ⟨j, hj, rfl, HBR⟩ := hrel
        by_cases hlt : j < M
        · have ht := HTT.out wr HBR.out j hlt
          have h1 := ht.1
          have h2 := ht.2.1
          have h3 := ht.2.2
          rw [HREL.out j hlt] at h1
          clear ht
          go_wp2_with fail
          generalize P.getD j false = pb at *
          generalize Q.getD j false = qb at *
          obtain ⟨eb, heb⟩ : ∃ eb, (pb == qb) = eb := ⟨_, rfl⟩
          have h1 : wr.cell? ⟨g7, j, none⟩ = some (.bool eb) := by rw [← heb]; exact h1
          go_quiet (fail)
          go_wp2_with fail
          go_roundw
          case rel => exact ⟨j + 1, by omega, by go_num, belNext HBR.out (below_drewN (Below.refl _ _) _)⟩
          case measure => simp [intOf]; omega
        · obtain rfl : j = M := by omega
          clear a0  a1  a2  b0  b1  b2  x0  x1  x2  e0  e1  e2  y0  y1  y2  z0  z1  z2
          obtain ⟨a0, a1, a2, b0, b1, b2, x0, x1, x2, e0, e1, e2, y0, y1, y2, z0, z1, z2⟩ := HC9.out wr HBR.out
          go_wp2_with fail
          refine (HYX.out wr HBR.out).mono ?_
          rintro e w10 ⟨rfl, hb10⟩
          have HB10 := hideN (belNext HBR.out hb10)
          clear hb10 a0  a1  a2  b0  b1  b2  x0  x1  x2  e0  e1  e2  y0  y1  y2  z0  z1  z2
          obtain ⟨a0, a1, a2, b0, b1, b2, x0, x1, x2, e0, e1, e2, y0, y1, y2, z0, z1, z2⟩ := HC9.out w10 HB10.out
          have HBE := hideN (belNext HBW9.out HB10.out)
          go_wp2_with fail
          go_ret
          exact ⟨rfl, HBE.out⟩

set_option maxRecDepth 100000 in
theorem fnBddTwo_lifted (os : Os) (started : os.Started) (H : Type) (enc : TypeId × Value → H) :
    ReturnsInHanded {} Try.checked os 5 .any (Rows.fnBddTwoSpec.pre6 enc Try.prog Try.f5 Rows.fnBddTwoRow.domain false) (Rows.fnBddTwoSpec.post enc Try.prog Try.f5 false true false false) := by
  refine returnsInHanded_of_change (C := Try.checked) own started (by kernel_rfl) Try.func5
    (ChangeSpec.witness6 (enc := enc) (C := Try.checked) false ⟨#[], #[.slice none 0 0], []⟩ 8 (by kernel_rfl) (by kernel_rfl) (by kernel_rfl) (by kernel_rfl)) ?_
  intro W base args ds gs before hval0 hW hcnd _
  have hval : ∀ (j : Nat) t v, Try.f5.params[j]? = some t → args[j]? = some v → Value.okWide Try.prog W .any base t v := hval0
  have hW' := hW
  obtain ⟨p, q, hA0, hV, rfl, hfz, hnd⟩ := hW
  have hA : DataW.TrodAll enc Try.prog W 0 (fun _ => true) true Try.f5.params.toList args.toList ds p := hA0
  rw [Try.params5] at hA hval
  obtain ⟨v0, vs0, d0, ds0, p0, q0, hargs, rfl, rfl, h0, r0⟩ := trodAll_cons hA
  obtain ⟨rfl, rfl, rfl⟩ := trodAll_nil r0
  obtain rfl : args = #[v0] := by cases args; simp_all
  obtain ⟨rfl, rfl⟩ := trodVars_none hV
  have k0 := h0
  have lt0 : ∀ x ∈ p0, x.block < W.heap.size := by obtain ⟨m, hm⟩ := k0; exact DataW.trod_lt m _ _ _ hm
  have hv0 := hval 0 22 v0 rfl rfl
  obtain ⟨ao, len, cap, rfl⟩ := okWide_slice Try.underlying22 hv0
  obtain ⟨fuel, hf⟩ := h0
  obtain ⟨bs, hbs, hml⟩ := isBytes_of_trod (by simpa [Value.cells] using hf)
  clear hA0 hval0
  refine (fnBddTwo_walk _ bs W hbs (fun ao' n' cap' b off h1 h2 => by cases h1; subst h2; exact okWide_slice_lt Try.underlying22 hv0) hml).mono fun e W' ⟨he, bel⟩ => ?_
  subst he
  exact ⟨_, rfl, _, _, _, [], _, [], hW', trodAll_mk1 (shut_bool Try.underlying4 _), (trodAll_cons_mk (Below.trod laidOutN (by kernel_rfl) (of_decide_eq_true (by kernel_rfl)) k0 bel lt0) trodAll_mk0), rfl, bel.frame _, fun h => by cases h⟩

theorem fnBddTwo_holds : Rows.FnBddTwoSaid :=
  OpenClaim.holds_of_wide 5 Try.f5 rfl rfl rfl rfl rfl rfl rfl ⟨rfl, rfl, rfl, rfl, rfl⟩ rfl rfl rfl rfl rfl (by kernel_rfl) Try.func5 (by kernel_rfl)
    (of_decide_eq_true (by kernel_rfl)) (by unfold Func.isWrapper; first | (rw [if_pos (by decide +kernel)]; kernel_rfl) | (rw [if_neg (by decide +kernel)]; exact ⟨rfl, rfl⟩))
    (fun os started H enc _ => fnBddTwo_lifted os started H enc)

end Go.Proofs.Ytmkbcfiechoebaa
