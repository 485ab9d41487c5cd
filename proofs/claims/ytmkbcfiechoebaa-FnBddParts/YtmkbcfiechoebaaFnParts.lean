/-
  The law FnBddParts: of two drawn diagrams, both opposites together are the opposite of either; the ways of either are those of each, less those of both. No condition: every argument that can be read.
-/
import Derived.Test.YtmkbcfiechoebaaBdPg
import Derived.Test.YtmkbcfiechoebaaBdDy
import Derived.Test.YtmkbcfiechoebaaOpenB
namespace Go.Proofs.Ytmkbcfiechoebaa
open Go.ChangeShapes Go.WideShapes Go.ChangeAt Go.RowKit Go.Deep Go.Joins
set_option linter.unusedVariables false

attribute [local go_sem] Oper.semAt_some

theorem twoA_fits {sg : ByteArray} {va ra vb rb : Int} {na nb : List Nd} {t : List Bool} : (∀ p ∈ (ansOf (twoB sg va na ra vb nb rb) va t).2.1, FitN p) ∧ (ansOf (twoB sg va na ra vb nb rb) va t).2.1.length ≤ 64 := by
  cases h : twoB sg va na ra vb nb rb with
  | false => simp [ansOf]
  | true =>
    obtain ⟨V, op, rfl, _, _, ha, _⟩ := twoB_split h
    have hd := draw_fit (t := t) (bdd_fits ha).1
    unfold ansOf
    rw [if_pos rfl, Int.toNat_natCast]
    exact ⟨hd.1, hd.2.1⟩

set_option maxRecDepth 100000 in
set_option maxHeartbeats 16000000 in
theorem fnBddParts_walk (v : Value) (bs : List Int) (w : World) (hv : IsBytes w v bs) (hal : ∀ ao n cap b off, v = .slice ao n cap → ao = some ⟨b, off, none⟩ → b < w.heap.size) (hml : bs.length ≤ maxLen) :
    Calls Try.prog 6 #[v] w fun e w' => e = .returned (.bool true) ∧ Below w.heap.size w w' := by
  unfold maxLen at hml
  have HDR := hideN (fun (h : bs.length ≤ 1048576) => drawBddTwo_any v bs w hv h hal)
  obtain ⟨aoc, capc, rfl, _⟩ := hv
  clear hal
  by_cases hbig : bs.length ≤ 1048576
  case neg =>
    have d1 : decide ((1048576 : Int) < (bs.length : Int)) = true := by simp; omega
    go_enter Try.func6, Try.ntmps6
    go_wp2_with fail
    go_ret
    exact ⟨rfl, Below.refl _ _⟩
  have d1 : decide ((1048576 : Int) < (bs.length : Int)) = false := by simp; omega
  have HDW := hideN (HDR.out hbig)
  clear HDR
  go_enter Try.func6, Try.ntmps6
  go_wp2_with fail
  refine HDW.out.mono ?_
  rintro e w0 ⟨sg, va, ra, ao, n, cap, na, vb, rb, bo, n2, cap2, nb, rfl, ⟨hsva, hsra, hn80, hnl, hsm⟩, ⟨hsvb, hsrb, hn280, hnl2, hsm2⟩, hrow, hrow2, hb0⟩
  obtain ⟨V1, hV1⟩ : ∃ V1, V1 = (w0.alloc (.cells #[.int .i64 va, .slice ao n cap, .int .i64 ra] 28)).alloc (.cells #[.int .i64 vb, .slice bo n2 cap2, .int .i64 rb] 28) := ⟨_, rfl⟩
  have hb01 : Below w0.heap.size w0 V1 := by rw [hV1]; exact belNext (belOne _ _) (belOne _ _)
  have HKA : Hid (BlkD V1 w0.heap.size (.int .i64 va) (.slice ao n cap) (.int .i64 ra)) := by rw [hV1]; exact (BlkD.new _ _ _ _).below (belOne _ _)
  have HKB : Hid (BlkD V1 (w0.heap.size + 1) (.int .i64 vb) (.slice bo n2 cap2) (.int .i64 rb)) := by
    have h := BlkD.new (w0.alloc (.cells #[.int .i64 va, .slice ao n cap, .int .i64 ra] 28)) (.int .i64 vb) (.slice bo n2 cap2) (.int .i64 rb)
    rw [World.size_alloc, ← hV1] at h
    exact h
  have HBW1 := hideN (belNext hb0 hb01)
  have hNA1 : Nds V1 ao n cap na := (nds_of_own hrow hnl).below hb01
  have hNB1 : Nds V1 bo n2 cap2 nb := (nds_of_own hrow2 hnl2).below hb01
  have HNA := hideN (fun V' (hV : Below V1.heap.size V1 V') => hNA1.below hV)
  have HNB := hideN (fun V' (hV : Below V1.heap.size V1 V') => hNB1.below hV)
  have ha64 : ∀ q ∈ na, I64N q := fun q hq => smN64 (hsm q hq)
  have hb64 : ∀ q ∈ nb, I64N q := fun q hq => smN64 (hsm2 q hq)
  have HIT := hideN (implBddTwo_any sg va ra vb rb ao bo n cap n2 cap2 na nb V1 hNA1 ha64 (sm64 hsra) hNB1 hb64 (sm64 hsrb))
  have HST := hideN (fun V' (hV : Below V1.heap.size V1 V') => specBddTwo_any sg va ra vb rb ao bo n cap n2 cap2 na nb V' (HNA.out V' hV) ha64 (sm64 hsra) (HNB.out V' hV) hb64 (sm64 hsrb) (by omega) (by omega))
  have HFI := hideN (twoA_fits (sg := sg) (va := va) (ra := ra) (vb := vb) (rb := rb) (na := na) (nb := nb) (t := twoT (twoOp sg) va na ra nb rb))
  obtain ⟨P, hP⟩ : ∃ P, ansOf (twoB sg va na ra vb nb rb) va (twoT (twoOp sg) va na ra nb rb) = P := ⟨_, rfl⟩
  obtain ⟨f, hf⟩ : ∃ f, twoB sg va na ra vb nb rb = f := ⟨_, rfl⟩
  rw [hP] at HIT HST HFI
  rw [hf] at HIT HST
  obtain ⟨fv, l, fr⟩ := P
  have HP := hideN hP
  have HF := hideN hf
  have HV1 := hideN hV1
  have HLA := hideN hnl
  have HLB := hideN hnl2
  clear hb01 hNA1 hNB1 hsm hsm2 hsra hsrb hnl hnl2 hV1 hrow hrow2 hb0 hsva hsvb HDW ha64 hb64 hP hf
  go_wp2_with fail
  try rw [← HV1.out]
  obtain ⟨B, hB⟩ : ∃ B, w0.heap.size + 1 = B := ⟨_, rfl⟩
  rw [hB] at HKB
  try rw [hB]
  obtain ⟨A, hA⟩ : ∃ A, w0.heap.size = A := ⟨_, rfl⟩
  rw [hA] at HKA
  try rw [hA]
  clear hA hB
  have HC1 : Hid (∀ V', Below V1.heap.size V1 V' → V'.cell? ⟨A, 0, none⟩ = some (.int .i64 va) ∧ V'.cell? ⟨A, 1, none⟩ = some (.slice ao n cap) ∧ V'.cell? ⟨A, 2, none⟩ = some (.int .i64 ra) ∧ V'.cell? ⟨B, 0, none⟩ = some (.int .i64 vb) ∧ V'.cell? ⟨B, 1, none⟩ = some (.slice bo n2 cap2) ∧ V'.cell? ⟨B, 2, none⟩ = some (.int .i64 rb)) := fun V' hV => ⟨(HKA.out.below hV).c0, (HKA.out.below hV).c1, (HKA.out.below hV).c2, (HKB.out.below hV).c0, (HKB.out.below hV).c1, (HKB.out.below hV).c2⟩
  obtain ⟨a0, a1, a2, b0, b1, b2⟩ := HC1.out V1 (Below.refl _ _)
  refine (HIT.out).mono ?_
  rintro e w2 ⟨s2, m2, d2, rfl, hm2, hr2, hb2⟩
  have HM2 := hideN hm2
  obtain ⟨V2, hV2⟩ : ∃ V2, V2 = w2.alloc (.cells #[.int .i64 fv, .slice s2 m2 d2, .int .i64 fr] 28) := ⟨_, rfl⟩
  have hb2' : Below w2.heap.size w2 V2 := by rw [hV2]; exact belOne _ _
  have HQ2 : Hid (BlkD V2 w2.heap.size (.int .i64 fv) (.slice s2 m2 d2) (.int .i64 fr)) := by rw [hV2]; exact BlkD.new _ _ _ _
  have HBV2 := hideN (belNext hb2 hb2')
  have HN20 := hideN (nds_of_own (row_below hr2 hb2') HM2.out)
  have HN2 := hideN (fun V' (hV : Below V2.heap.size V2 V') => HN20.out.below hV)
  have HCw := hideN (HC1.out w2 hb2)
  have HV2 := hideN hV2
  clear a0  a1  a2  b0  b1  b2 hb2 hb2' hr2 hV2 HN20
  obtain ⟨a0, a1, a2, b0, b1, b2⟩ := HCw.out
  clear HCw
  have ltA : A < w2.heap.size := cell_lt a0
  have ltB : B < w2.heap.size := cell_lt b0
  go_wp2_with fail
  try rw [← HV2.out]
  clear a0  a1  a2  b0  b1  b2 ltA ltB
  obtain ⟨X, hX⟩ : ∃ X, w2.heap.size = X := ⟨_, rfl⟩
  rw [hX] at HQ2
  try rw [hX]
  have HC2 : Hid (∀ V', Below V2.heap.size V2 V' → V'.cell? ⟨A, 0, none⟩ = some (.int .i64 va) ∧ V'.cell? ⟨A, 1, none⟩ = some (.slice ao n cap) ∧ V'.cell? ⟨A, 2, none⟩ = some (.int .i64 ra) ∧ V'.cell? ⟨B, 0, none⟩ = some (.int .i64 vb) ∧ V'.cell? ⟨B, 1, none⟩ = some (.slice bo n2 cap2) ∧ V'.cell? ⟨B, 2, none⟩ = some (.int .i64 rb) ∧ V'.cell? ⟨X, 0, none⟩ = some (.int .i64 fv) ∧ V'.cell? ⟨X, 1, none⟩ = some (.slice s2 m2 d2) ∧ V'.cell? ⟨X, 2, none⟩ = some (.int .i64 fr)) := fun V' hV => by
    obtain ⟨a0, a1, a2, b0, b1, b2⟩ := HC1.out V' (belNext HBV2.out hV)
    exact ⟨a0, a1, a2, b0, b1, b2, (HQ2.out.below hV).c0, (HQ2.out.below hV).c1, (HQ2.out.below hV).c2⟩
  clear hX
  obtain ⟨a0, a1, a2, b0, b1, b2, x0, x1, x2⟩ := HC2.out V2 (Below.refl _ _)
  refine (HST.out V2 HBV2.out).mono ?_
  rintro e w3 ⟨s3, m3, d3, rfl, hm3, hr3, hb3⟩
  have hm32 : m2 = m3 := by rw [← hm3, HM2.out]
  subst hm32
  have HM3 := hideN hm3
  obtain ⟨V3, hV3⟩ : ∃ V3, V3 = w3.alloc (.cells #[.int .i64 fv, .slice s3 m2 d3, .int .i64 fr] 28) := ⟨_, rfl⟩
  have hb3' : Below w3.heap.size w3 V3 := by rw [hV3]; exact belOne _ _
  have HQ3 : Hid (BlkD V3 w3.heap.size (.int .i64 fv) (.slice s3 m2 d3) (.int .i64 fr)) := by rw [hV3]; exact BlkD.new _ _ _ _
  have HBV3 := hideN (belNext hb3 hb3')
  have HN30 := hideN (nds_of_own (row_below hr3 hb3') HM3.out)
  have HN3 := hideN (fun V' (hV : Below V3.heap.size V3 V') => HN30.out.below hV)
  have HCw := hideN (HC2.out w3 hb3)
  have HV3 := hideN hV3
  clear a0  a1  a2  b0  b1  b2  x0  x1  x2 hb3 hb3' hr3 hV3 HN30
  obtain ⟨a0, a1, a2, b0, b1, b2, x0, x1, x2⟩ := HCw.out
  clear HCw
  have ltA : A < w3.heap.size := cell_lt a0
  have ltB : B < w3.heap.size := cell_lt b0
  have ltX : X < w3.heap.size := cell_lt x0
  go_wp2_with fail
  try rw [← HV3.out]
  clear a0  a1  a2  b0  b1  b2  x0  x1  x2 ltA ltB ltX
  obtain ⟨E, hE⟩ : ∃ E, w3.heap.size = E := ⟨_, rfl⟩
  rw [hE] at HQ3
  try rw [hE]
  have HC3 : Hid (∀ V', Below V3.heap.size V3 V' → V'.cell? ⟨A, 0, none⟩ = some (.int .i64 va) ∧ V'.cell? ⟨A, 1, none⟩ = some (.slice ao n cap) ∧ V'.cell? ⟨A, 2, none⟩ = some (.int .i64 ra) ∧ V'.cell? ⟨B, 0, none⟩ = some (.int .i64 vb) ∧ V'.cell? ⟨B, 1, none⟩ = some (.slice bo n2 cap2) ∧ V'.cell? ⟨B, 2, none⟩ = some (.int .i64 rb) ∧ V'.cell? ⟨X, 0, none⟩ = some (.int .i64 fv) ∧ V'.cell? ⟨X, 1, none⟩ = some (.slice s2 m2 d2) ∧ V'.cell? ⟨X, 2, none⟩ = some (.int .i64 fr) ∧ V'.cell? ⟨E, 0, none⟩ = some (.int .i64 fv) ∧ V'.cell? ⟨E, 1, none⟩ = some (.slice s3 m2 d3) ∧ V'.cell? ⟨E, 2, none⟩ = some (.int .i64 fr)) := fun V' hV => by
    obtain ⟨a0, a1, a2, b0, b1, b2, x0, x1, x2⟩ := HC2.out V' (belNext HBV3.out hV)
    exact ⟨a0, a1, a2, b0, b1, b2, x0, x1, x2, (HQ3.out.below hV).c0, (HQ3.out.below hV).c1, (HQ3.out.below hV).c2⟩
  clear hE
  obtain ⟨a0, a1, a2, b0, b1, b2, x0, x1, x2, e0, e1, e2⟩ := HC3.out V3 (Below.refl _ _)
  have HB13 := hideN (belNext HBV2.out HBV3.out)
  have HRG := hideN (fun V' (hV : Below V3.heap.size V3 V') => rgBdd_ok (va := fv) (ra := fr) (HN2.out V' (belNext HBV3.out hV)) (HN3.out V' hV) HFI.out)
  clear a0  a1  a2  b0  b1  b2  x0  x1  x2  e0  e1  e2
  obtain ⟨a0, a1, a2, b0, b1, b2, x0, x1, x2, e0, e1, e2⟩ := HC3.out V3 (Below.refl _ _)
  go_wp2_with fail
  refine (HRG.out V3 (Below.refl _ _)).mono ?_
  rintro e w4 ⟨rfl, hb4⟩
  have HB34 := hideN hb4
  clear hb4 a0  a1  a2  b0  b1  b2  x0  x1  x2  e0  e1  e2
  obtain ⟨a0, a1, a2, b0, b1, b2, x0, x1, x2, e0, e1, e2⟩ := HC3.out w4 HB34.out
  cases f with
  | false =>
    go_wp2_with fail
    refine (HRG.out w4 HB34.out).mono ?_
    rintro e w5 ⟨rfl, hb5⟩
    have HBE := hideN (belNext HBW1.out (belNext HB13.out (belNext HB34.out hb5)))
    clear hb5
    go_wp2_with fail
    go_ret
    exact ⟨rfl, HBE.out⟩
  | true =>
    obtain ⟨V, op, rfl, rfl, hop, hba, hbb⟩ := twoB_split HF.out
    have hfa := bdd_fits hba
    have hfb := bdd_fits hbb
    have h6 := hfa.1
    have hp := HP.out
    rw [HF.out] at hp
    unfold ansOf twoOp at hp
    rw [if_pos rfl, hop, Int.toNat_natCast, Option.getD_some] at hp
    simp only [Prod.mk.injEq] at hp
    obtain ⟨e1, e2, e3⟩ := hp
    subst e1
    have hbx : bddB (V : Int) l fr = true := by rw [← e2, ← e3]; exact two_ok hba
    have hPF := parts_facts hba hbb
    have HOB := hideN (fun V' (hV : Below V1.heap.size V1 V') => implTwo_ok (sg := { data := #[38] }) opOf_and (HNA.out V' hV) (HNB.out V' hV) hba hbb)
    have HOE := hideN (fun V' (hV : Below V1.heap.size V1 V') => implTwo_ok (sg := { data := #[124] }) opOf_or (HNA.out V' hV) (HNB.out V' hV) hba hbb)
    have HOP := hideN (fun V' (hV : Below V1.heap.size V1 V') => implNot_ok (HNA.out V' hV) hba)
    have HOQ := hideN (fun V' (hV : Below V1.heap.size V1 V') => implNot_ok (HNB.out V' hV) hbb)
    have HKA2 := hideN (fun V' (hV : Below V1.heap.size V1 V') => implCount_ok (HNA.out V' hV) hba)
    have HKB2 := hideN (fun V' (hV : Below V1.heap.size V1 V') => implCount_ok (HNB.out V' hV) hbb)
    have hca : 0 ≤ countZ (V : Int) na ra ∧ countZ (V : Int) na ra ≤ 64 := count_small h6 hba
    have hcb : 0 ≤ countZ (V : Int) nb rb ∧ countZ (V : Int) nb rb ≤ 64 := count_small h6 hbb
    generalize drawB V 0 (twoT (fun a b => a && b) (V : Int) (drawB V 0 (notT (V : Int) na ra) []).1 (drawB V 0 (notT (V : Int) na ra) []).2 (drawB V 0 (notT (V : Int) nb rb) []).1 (drawB V 0 (notT (V : Int) nb rb) []).2) [] = DN at *
    generalize drawB V 0 (notT (V : Int) na ra) [] = DP at *
    generalize drawB V 0 (notT (V : Int) nb rb) [] = DQ at *
    generalize drawB V 0 (twoT (fun a b => a && b) (V : Int) na ra nb rb) [] = DB at *
    generalize drawB V 0 (twoT (fun a b => a || b) (V : Int) na ra nb rb) [] = DE at *
    obtain ⟨lP, rP⟩ := DP
    obtain ⟨lQ, rQ⟩ := DQ
    obtain ⟨lB, rB⟩ := DB
    obtain ⟨lE, rE⟩ := DE
    obtain ⟨lN, rN⟩ := DN
    simp only at hPF HOB HOE HOP HOQ
    have HOD : Hid (∀ V' aP nP cP aQ nQ cQ, Nds V' aP nP cP lP → Nds V' aQ nQ cQ lQ → Calls Try.prog 23 #[.string { data := #[38] }, .agg #[.int .i64 (V : Int), .slice aP nP cP, .int .i64 rP], .agg #[.int .i64 (V : Int), .slice aQ nQ cQ, .int .i64 rQ]] V' (TwoPost ((V : Int), lN, rN) true V')) := fun V' aP nP cP aQ nQ cQ hP hQ => by
      have h := implTwo_ok (sg := { data := #[38] }) opOf_and hP hQ hPF.okP hPF.okQ
      rw [hPF.both] at h
      exact h
    have HNE : Hid (∀ V' a n c, Nds V' a n c lE → Calls Try.prog 25 #[.agg #[.int .i64 (V : Int), .slice a n c, .int .i64 rE]] V' (BddPost (V : Int) lN rN V')) := fun V' a n c hE => by
      have h := implNot_ok hE hPF.okE
      rw [hPF.nots] at h
      exact h
    have HKE := hideN (fun V' a n c (h : Nds V' a n c lE) => implCount_ok h hPF.okE)
    have HKO := hideN (fun V' a n c (h : Nds V' a n c lB) => implCount_ok h hPF.okB)
    have hce : 0 ≤ countZ (V : Int) lE rE ∧ countZ (V : Int) lE rE ≤ 64 := count_small h6 hPF.okE
    have hco : 0 ≤ countZ (V : Int) lB rB ∧ countZ (V : Int) lB rB ≤ 64 := count_small h6 hPF.okB
    have hcs := hPF.count
    have hfn := bdd_fits hPF.okN
    have HFN : Hid ((∀ p ∈ lN, FitN p) ∧ lN.length ≤ 64) := ⟨hfn.2.1, hfn.2.2.1⟩
    clear hPF e2 e3 HP HF HIT HST hfa hfb hbx hba hbb hop hfn
    generalize countZ (V : Int) na ra = ca at *
    generalize countZ (V : Int) nb rb = cb at *
    generalize countZ (V : Int) lE rE = ce at *
    generalize countZ (V : Int) lB rB = co at *
    have hb14 := belNext HB13.out HB34.out
    have HBV4 := hideN HB34.out
    have HB14 := hideN hb14
    have HC4 := hideN (fun V' (hV : Below w4.heap.size w4 V') => HC3.out V' (belNext HB34.out hV))
    clear hb14
    go_wp2_with fail
    refine (HOB.out w4 HB14.out).mono ?_
    rintro e w5 ⟨s5, m5, d5, rfl, hm5, hr5, hb5⟩
    have HM5 := hideN hm5
    obtain ⟨V5, hV5⟩ : ∃ V5, V5 = w5.alloc (.cells #[.int .i64 (V : Int), .slice s5 m5 d5, .int .i64 rB] 28) := ⟨_, rfl⟩
    have hb5' : Below w5.heap.size w5 V5 := by rw [hV5]; exact belOne _ _
    have HQ5 : Hid (BlkD V5 w5.heap.size (.int .i64 (V : Int)) (.slice s5 m5 d5) (.int .i64 rB)) := by rw [hV5]; exact BlkD.new _ _ _ _
    have HBV5 := hideN (belNext hb5 hb5')
    have HN50 := hideN (nds_of_own (row_below hr5 hb5') HM5.out)
    have HN5 := hideN (fun V' (hV : Below V5.heap.size V5 V') => HN50.out.below hV)
    have HCw := hideN (HC4.out w5 hb5)
    have HV5 := hideN hV5
    clear a0  a1  a2  b0  b1  b2  x0  x1  x2  e0  e1  e2 hb5 hb5' hr5 hV5 HN50
    obtain ⟨a0, a1, a2, b0, b1, b2, x0, x1, x2, e0, e1, e2⟩ := HCw.out
    clear HCw
    have ltA : A < w5.heap.size := cell_lt a0
    have ltB : B < w5.heap.size := cell_lt b0
    have ltX : X < w5.heap.size := cell_lt x0
    have ltE : E < w5.heap.size := cell_lt e0
    go_wp2_with fail
    try rw [← HV5.out]
    clear a0  a1  a2  b0  b1  b2  x0  x1  x2  e0  e1  e2 ltA ltB ltX ltE
    obtain ⟨Y, hY⟩ : ∃ Y, w5.heap.size = Y := ⟨_, rfl⟩
    rw [hY] at HQ5
    try rw [hY]
    have HC5 : Hid (∀ V', Below V5.heap.size V5 V' → V'.cell? ⟨A, 0, none⟩ = some (.int .i64 (V : Int)) ∧ V'.cell? ⟨A, 1, none⟩ = some (.slice ao n cap) ∧ V'.cell? ⟨A, 2, none⟩ = some (.int .i64 ra) ∧ V'.cell? ⟨B, 0, none⟩ = some (.int .i64 (V : Int)) ∧ V'.cell? ⟨B, 1, none⟩ = some (.slice bo n2 cap2) ∧ V'.cell? ⟨B, 2, none⟩ = some (.int .i64 rb) ∧ V'.cell? ⟨X, 0, none⟩ = some (.int .i64 (V : Int)) ∧ V'.cell? ⟨X, 1, none⟩ = some (.slice s2 m2 d2) ∧ V'.cell? ⟨X, 2, none⟩ = some (.int .i64 fr) ∧ V'.cell? ⟨E, 0, none⟩ = some (.int .i64 (V : Int)) ∧ V'.cell? ⟨E, 1, none⟩ = some (.slice s3 m2 d3) ∧ V'.cell? ⟨E, 2, none⟩ = some (.int .i64 fr) ∧ V'.cell? ⟨Y, 0, none⟩ = some (.int .i64 (V : Int)) ∧ V'.cell? ⟨Y, 1, none⟩ = some (.slice s5 m5 d5) ∧ V'.cell? ⟨Y, 2, none⟩ = some (.int .i64 rB)) := fun V' hV => by
      obtain ⟨a0, a1, a2, b0, b1, b2, x0, x1, x2, e0, e1, e2⟩ := HC4.out V' (belNext HBV5.out hV)
      exact ⟨a0, a1, a2, b0, b1, b2, x0, x1, x2, e0, e1, e2, (HQ5.out.below hV).c0, (HQ5.out.below hV).c1, (HQ5.out.below hV).c2⟩
    clear hY
    obtain ⟨a0, a1, a2, b0, b1, b2, x0, x1, x2, e0, e1, e2, y0, y1, y2⟩ := HC5.out V5 (Below.refl _ _)
    refine (HOE.out V5 (belNext HB14.out HBV5.out)).mono ?_
    rintro e w6 ⟨s6, m6, d6, rfl, hm6, hr6, hb6⟩
    have HM6 := hideN hm6
    obtain ⟨V6, hV6⟩ : ∃ V6, V6 = w6.alloc (.cells #[.int .i64 (V : Int), .slice s6 m6 d6, .int .i64 rE] 28) := ⟨_, rfl⟩
    have hb6' : Below w6.heap.size w6 V6 := by rw [hV6]; exact belOne _ _
    have HQ6 : Hid (BlkD V6 w6.heap.size (.int .i64 (V : Int)) (.slice s6 m6 d6) (.int .i64 rE)) := by rw [hV6]; exact BlkD.new _ _ _ _
    have HBV6 := hideN (belNext hb6 hb6')
    have HN60 := hideN (nds_of_own (row_below hr6 hb6') HM6.out)
    have HN6 := hideN (fun V' (hV : Below V6.heap.size V6 V') => HN60.out.below hV)
    have HCw := hideN (HC5.out w6 hb6)
    have HV6 := hideN hV6
    clear a0  a1  a2  b0  b1  b2  x0  x1  x2  e0  e1  e2  y0  y1  y2 hb6 hb6' hr6 hV6 HN60
    obtain ⟨a0, a1, a2, b0, b1, b2, x0, x1, x2, e0, e1, e2, y0, y1, y2⟩ := HCw.out
    clear HCw
    have ltA : A < w6.heap.size := cell_lt a0
    have ltB : B < w6.heap.size := cell_lt b0
    have ltX : X < w6.heap.size := cell_lt x0
    have ltE : E < w6.heap.size := cell_lt e0
    have ltY : Y < w6.heap.size := cell_lt y0
    go_wp2_with fail
    try rw [← HV6.out]
    clear a0  a1  a2  b0  b1  b2  x0  x1  x2  e0  e1  e2  y0  y1  y2 ltA ltB ltX ltE ltY
    obtain ⟨Z, hZ⟩ : ∃ Z, w6.heap.size = Z := ⟨_, rfl⟩
    rw [hZ] at HQ6
    try rw [hZ]
    have HC6 : Hid (∀ V', Below V6.heap.size V6 V' → V'.cell? ⟨A, 0, none⟩ = some (.int .i64 (V : Int)) ∧ V'.cell? ⟨A, 1, none⟩ = some (.slice ao n cap) ∧ V'.cell? ⟨A, 2, none⟩ = some (.int .i64 ra) ∧ V'.cell? ⟨B, 0, none⟩ = some (.int .i64 (V : Int)) ∧ V'.cell? ⟨B, 1, none⟩ = some (.slice bo n2 cap2) ∧ V'.cell? ⟨B, 2, none⟩ = some (.int .i64 rb) ∧ V'.cell? ⟨X, 0, none⟩ = some (.int .i64 (V : Int)) ∧ V'.cell? ⟨X, 1, none⟩ = some (.slice s2 m2 d2) ∧ V'.cell? ⟨X, 2, none⟩ = some (.int .i64 fr) ∧ V'.cell? ⟨E, 0, none⟩ = some (.int .i64 (V : Int)) ∧ V'.cell? ⟨E, 1, none⟩ = some (.slice s3 m2 d3) ∧ V'.cell? ⟨E, 2, none⟩ = some (.int .i64 fr) ∧ V'.cell? ⟨Y, 0, none⟩ = some (.int .i64 (V : Int)) ∧ V'.cell? ⟨Y, 1, none⟩ = some (.slice s5 m5 d5) ∧ V'.cell? ⟨Y, 2, none⟩ = some (.int .i64 rB) ∧ V'.cell? ⟨Z, 0, none⟩ = some (.int .i64 (V : Int)) ∧ V'.cell? ⟨Z, 1, none⟩ = some (.slice s6 m6 d6) ∧ V'.cell? ⟨Z, 2, none⟩ = some (.int .i64 rE)) := fun V' hV => by
      obtain ⟨a0, a1, a2, b0, b1, b2, x0, x1, x2, e0, e1, e2, y0, y1, y2⟩ := HC5.out V' (belNext HBV6.out hV)
      exact ⟨a0, a1, a2, b0, b1, b2, x0, x1, x2, e0, e1, e2, y0, y1, y2, (HQ6.out.below hV).c0, (HQ6.out.below hV).c1, (HQ6.out.below hV).c2⟩
    clear hZ
    obtain ⟨a0, a1, a2, b0, b1, b2, x0, x1, x2, e0, e1, e2, y0, y1, y2, z0, z1, z2⟩ := HC6.out V6 (Below.refl _ _)
    have HB16 := hideN (belNext HB14.out (belNext HBV5.out HBV6.out))
    have HS := hideN (fun V' (hV : Below V6.heap.size V6 V') => HC1.out V' (belNext HB16.out hV))
    have HNA6 := hideN (fun V' (hV : Below V6.heap.size V6 V') => HNA.out V' (belNext HB16.out hV))
    have HOP6 := hideN (fun V' (hV : Below V6.heap.size V6 V') => HOP.out V' (belNext HB16.out hV))
    have HOQ6 := hideN (fun V' (hV : Below V6.heap.size V6 V') => HOQ.out V' (belNext HB16.out hV))
    have HKA6 := hideN (fun V' (hV : Below V6.heap.size V6 V') => HKA2.out V' (belNext HB16.out hV))
    have HKB6 := hideN (fun V' (hV : Below V6.heap.size V6 V') => HKB2.out V' (belNext HB16.out hV))
    have HN5V := hideN (fun V' (hV : Below V6.heap.size V6 V') => HN5.out V' (belNext HBV6.out hV))
    have HBW6 := hideN (belNext HBW1.out HB16.out)
    have hltA : A < V6.heap.size := cell_lt (HS.out V6 (Below.refl _ _)).1
    have hltB : B < V6.heap.size := cell_lt (HS.out V6 (Below.refl _ _)).2.2.2.1
    clear HRG HN2 HN3 HN5 HNA HNB HC1 HC2 HC3 HC4 HC5 HKA HKB HKA2 HKB2 HOP HOQ HOB HOE HQ2 HQ3 HQ5 HQ6 HV1 HV2 HV3 HV5 HV6 HB13 HB14 HB16 HB34 HBW1 HBV2 HBV3 HBV4 HBV5 HBV6
    clear a0  a1  a2  b0  b1  b2  x0  x1  x2  e0  e1  e2  y0  y1  y2  z0  z1  z2
    go_wp2_with fail
    go_cut [14, 15] (fun s14 s15 wc => ∃ q aw mw cw, s14 = .pointer (some ⟨q, 0, none⟩) ∧ s15 = .bool true ∧ Hid (BlkD wc q (.int .i64 (V : Int)) (.slice aw mw cw) (.int .i64 rN)) ∧ Hid (Nds wc aw mw cw lN) ∧ Hid (Below V6.heap.size V6 wc) ∧ V6.heap.size ≤ q)
    case first =>
      have hd7 := below_drewN (Below.refl V6.heap.size V6) 1
      obtain ⟨a0, a1, a2, b0, b1, b2⟩ := HS.out V6.drew hd7
      refine region_U (fin := 10) (S := fun V' => V'.cell? ⟨A, 0, none⟩ = some (.int .i64 (V : Int)) ∧ V'.cell? ⟨A, 1, none⟩ = some (.slice ao n cap) ∧ V'.cell? ⟨A, 2, none⟩ = some (.int .i64 ra) ∧ V'.cell? ⟨B, 0, none⟩ = some (.int .i64 (V : Int)) ∧ V'.cell? ⟨B, 1, none⟩ = some (.slice bo n2 cap2) ∧ V'.cell? ⟨B, 2, none⟩ = some (.int .i64 rb)) (by kernel_rfl) ⟨a0, a1, a2, b0, b1, b2⟩ (fun hHeld => ?_)
      clear hHeld
      refine takeU (i := 0) (v := .agg #[.int .i64 (V : Int), .slice ao n cap, .int .i64 ra]) rfl (by rfl) (by kernel_rfl) (by kernel_rfl) (reach_one (by kernel_rfl)) (by kernel_rfl) (by kernel_rfl) (fun _ _ _ h => h) (Or.inl ⟨by rfl, fun w hS => by obtain ⟨a0, a1, a2, b0, b1, b2⟩ := hS; go_simp⟩) ⟨a0, a1, a2, b0, b1, b2⟩ ?_
      simp only [List.getElem_toArray, List.getElem_cons_zero, Act.put, List.setIfInBounds_toArray, List.set_cons_zero, List.set_cons_succ]
      refine takeU (i := 2) (v := .agg #[.int .i64 (V : Int), .slice bo n2 cap2, .int .i64 rb]) rfl (by rfl) (by kernel_rfl) (by kernel_rfl) (reach_one (by kernel_rfl)) (by kernel_rfl) (by kernel_rfl) (fun _ _ _ h => h) (Or.inl ⟨by rfl, fun w hS => by obtain ⟨a0, a1, a2, b0, b1, b2⟩ := hS; go_simp⟩) ⟨a0, a1, a2, b0, b1, b2⟩ ?_
      simp only [List.getElem_toArray, List.getElem_cons_zero, List.getElem_cons_succ, Act.put, List.setIfInBounds_toArray, List.set_cons_zero, List.set_cons_succ]
      refine twoU (i := 1) (j := 8) (by kernel_rfl) rfl rfl (by rfl) (by rfl) ?_ ?_
      · simp only [List.getElem_toArray, List.getElem_cons_zero, List.getElem_cons_succ]
        go_simp
        refine (HOP6.out V6.drew hd7).mono ?_
        rintro e Vg1 ⟨ag6, ng7, cg8, rfl, hng4, hrg5, hbg2⟩
        have HPg9 := hideN (nds_of_own hrg5 hng4)
        clear hrg5 hng4
        have hg3 : Below V6.heap.size V6 Vg1 := belNext hd7 hbg2
        obtain ⟨a0, a1, a2, b0, b1, b2⟩ := HS.out Vg1 hg3
        refine ⟨⟨a0, a1, a2, b0, b1, b2⟩, ?_⟩
        refine twoU (i := 3) (j := 8) (by kernel_rfl) rfl rfl (by rfl) (by rfl) ?_ ?_
        · simp only [List.getElem_toArray, List.getElem_cons_zero, List.getElem_cons_succ]
          go_simp
          refine (HOQ6.out Vg1 hg3).mono ?_
          rintro e Vg10 ⟨ag15, ng16, cg17, rfl, hng13, hrg14, hbg11⟩
          have HPg18 := hideN (HPg9.out.below hbg11)
          have HRg19 := hideN (nds_of_own hrg14 hng13)
          clear hrg14 hng13
          have hg12 : Below V6.heap.size V6 Vg10 := belNext hg3 hbg11
          obtain ⟨a0, a1, a2, b0, b1, b2⟩ := HS.out Vg10 hg12
          refine ⟨⟨a0, a1, a2, b0, b1, b2⟩, ?_⟩
          refine twoU (i := 4) (j := 8) (by kernel_rfl) rfl rfl (by rfl) (by rfl) ?_ ?_
          · simp only [List.getElem_toArray, List.getElem_cons_zero, List.getElem_cons_succ]
            go_simp
            refine (HOD.out Vg10 ag6 ng7 cg8 ag15 ng16 cg17 HPg18.out HRg19.out).mono ?_
            rintro e Vg20 ⟨ag25, ng26, cg27, rfl, hng23, hrg24, hbg21⟩
            have HWg28 := hideN hrg24
            have HLg29 := hideN hng23
            clear hrg24 hng23
            have hg22 : Below V6.heap.size V6 Vg20 := belNext hg12 hbg21
            obtain ⟨a0, a1, a2, b0, b1, b2⟩ := HS.out Vg20 hg22
            refine ⟨⟨a0, a1, a2, b0, b1, b2⟩, ?_⟩
            refine takeU (i := 5) (v := .tuple #[.agg #[.int .i64 (V : Int), .slice ag25 ng26 cg27, .int .i64 rN], .bool true]) rfl (by rfl) (by kernel_rfl) (by kernel_rfl) (reach_one (by kernel_rfl)) (by kernel_rfl) (by kernel_rfl) (fun _ _ _ h => h) (Or.inl ⟨by rfl, fun w hS => by obtain ⟨a0, a1, a2, b0, b1, b2⟩ := hS; go_simp⟩) ⟨a0, a1, a2, b0, b1, b2⟩ ?_
            simp only [List.getElem_toArray, List.getElem_cons_zero, List.getElem_cons_succ, Act.put, List.setIfInBounds_toArray, List.set_cons_zero, List.set_cons_succ]
            refine takeU (i := 6) (v := .agg #[.int .i64 (V : Int), .slice ag25 ng26 cg27, .int .i64 rN]) rfl (by rfl) (by kernel_rfl) (by kernel_rfl) (reach_one (by kernel_rfl)) (by kernel_rfl) (by kernel_rfl) (fun _ _ _ h => h) (Or.inl ⟨by rfl, fun w hS => by obtain ⟨a0, a1, a2, b0, b1, b2⟩ := hS; go_simp⟩) ⟨a0, a1, a2, b0, b1, b2⟩ ?_
            simp only [List.getElem_toArray, List.getElem_cons_zero, List.getElem_cons_succ, Act.put, List.setIfInBounds_toArray, List.set_cons_zero, List.set_cons_succ]
            refine takeU (i := 7) (v := .bool true) rfl (by rfl) (by kernel_rfl) (by kernel_rfl) (reach_one (by kernel_rfl)) (by kernel_rfl) (by kernel_rfl) (fun _ _ _ h => h) (Or.inl ⟨by rfl, fun w hS => by obtain ⟨a0, a1, a2, b0, b1, b2⟩ := hS; go_simp⟩) ⟨a0, a1, a2, b0, b1, b2⟩ ?_
            simp only [List.getElem_toArray, List.getElem_cons_zero, List.getElem_cons_succ, Act.put, List.setIfInBounds_toArray, List.set_cons_zero, List.set_cons_succ]
            refine oneU (i := 8) (by kernel_rfl) rfl (by rfl) ?_
            simp only [List.getElem_toArray, List.getElem_cons_zero, List.getElem_cons_succ]
            go_simp
            obtain ⟨Vg30, hVg33⟩ : ∃ V', V' = Vg20.alloc (.cells #[.int .i64 0, .slice none 0 0, .int .i64 0] 28) := ⟨_, rfl⟩
            try rw [← hVg33]
            have hbg31 : Below Vg20.heap.size Vg20 Vg30 := by rw [hVg33]; exact belOne _ _
            have HQg36 : Hid (BlkD Vg30 Vg20.heap.size (.int .i64 0) (.slice none 0 0) (.int .i64 0)) := by rw [hVg33]; exact BlkD.new _ _ _ _
            have hqg35 : V6.heap.size ≤ Vg20.heap.size := hg22.size
            have HNEg37 : Hid (∀ k, (Value.slice ag25 ng26 cg27).ownBlock = some k → k ≠ Vg20.heap.size) := fun k e => by have := (World.ownsRow.lt HWg28.out k e).2; omega
            have hg32 : Below V6.heap.size V6 Vg30 := belNext hg22 hbg31
            have HWg38 := hideN (row_below HWg28.out hbg31)
            clear hVg33 hbg31
            generalize Vg20.heap.size = qg34 at *
            obtain ⟨a0, a1, a2, b0, b1, b2⟩ := HS.out Vg30 hg32
            refine ⟨⟨a0, a1, a2, b0, b1, b2⟩, ?_⟩
            have k0 := HQg36.out.c0
            have k1 := HQg36.out.c1
            have k2 := HQg36.out.c2
            have k3 := HQg36.out.f 0
            have k4 := HQg36.out.f 1
            have k5 := HQg36.out.f 2
            have k6 := HQg36.out.lt
            have HQZ := hideN (HQg36.out.set (.int .i64 (V : Int)) (.slice ag25 ng26 cg27) (.int .i64 rN))
            have HRZ := hideN (nds_of_own (row_base (row_of_block HWg38.out (fun k e => set3_other (.int .i64 (V : Int)) (.slice ag25 ng26 cg27) (.int .i64 rN) (HNEg37.out k e))) (Nat.zero_le _)) HLg29.out)
            have HBZ := hideN (set3_below hg32 hqg35 (.int .i64 (V : Int)) (.slice ag25 ng26 cg27) (.int .i64 rN))
            have n1' : A ≠ qg34 := by have := hqg35; have := hltA; omega
            have n2' : qg34 ≠ A := by have := hqg35; have := hltA; omega
            have n3' : B ≠ qg34 := by have := hqg35; have := hltB; omega
            have n4' : qg34 ≠ B := by have := hqg35; have := hltB; omega
            refine oneU (i := 9) (by kernel_rfl) rfl (by rfl) ?_
            simp only [List.getElem_toArray, List.getElem_cons_zero, List.getElem_cons_succ]
            go_simp
            refine oneU (i := 10) (by kernel_rfl) rfl (by rfl) ?_
            simp only [List.getElem_toArray, List.getElem_cons_zero, List.getElem_cons_succ]
            go_simp
            refine doneU (by kernel_rfl) ?_ _
            go_wp2_with fail
            go_meet
            case rel => exact ⟨qg34, ag25, ng26, cg27, rfl, rfl, HQZ, HRZ, HBZ, hqg35⟩
          · simp only [List.getElem_toArray, List.getElem_cons_zero, List.getElem_cons_succ]
            go_simp
            obtain ⟨Vg39, hVg42⟩ : ∃ V', V' = Vg10.alloc (.cells #[.int .i64 0, .slice none 0 0, .int .i64 0] 28) := ⟨_, rfl⟩
            try rw [← hVg42]
            have hbg40 : Below Vg10.heap.size Vg10 Vg39 := by rw [hVg42]; exact belOne _ _
            have HQg45 : Hid (BlkD Vg39 Vg10.heap.size (.int .i64 0) (.slice none 0 0) (.int .i64 0)) := by rw [hVg42]; exact BlkD.new _ _ _ _
            have hqg44 : V6.heap.size ≤ Vg10.heap.size := hg12.size
            have hg41 : Below V6.heap.size V6 Vg39 := belNext hg12 hbg40
            have HPg46 := hideN (HPg18.out.below hbg40)
            have HRg47 := hideN (HRg19.out.below hbg40)
            clear hVg42 hbg40
            generalize Vg10.heap.size = qg43 at *
            obtain ⟨a0, a1, a2, b0, b1, b2⟩ := HS.out Vg39 hg41
            refine ⟨⟨a0, a1, a2, b0, b1, b2⟩, ?_⟩
            refine oneU (i := 4) (by kernel_rfl) rfl (by rfl) ?_
            simp only [List.getElem_toArray, List.getElem_cons_zero, List.getElem_cons_succ]
            go_simp
            refine (HOD.out Vg39 ag6 ng7 cg8 ag15 ng16 cg17 HPg46.out HRg47.out).mono ?_
            rintro e Vg48 ⟨ag53, ng54, cg55, rfl, hng51, hrg52, hbg49⟩
            have HNEg56 : Hid (∀ k, (Value.slice ag53 ng54 cg55).ownBlock = some k → k ≠ qg43) := fun k e => by have := (World.ownsRow.lt hrg52 k e).1; have := HQg45.out.lt; omega
            have HQg57 := hideN (HQg45.out.below hbg49)
            have HWg58 := hideN hrg52
            have HLg59 := hideN hng51
            clear hrg52 hng51
            have hg50 : Below V6.heap.size V6 Vg48 := belNext hg41 hbg49
            obtain ⟨a0, a1, a2, b0, b1, b2⟩ := HS.out Vg48 hg50
            refine ⟨⟨a0, a1, a2, b0, b1, b2⟩, ?_⟩
            refine takeU (i := 5) (v := .tuple #[.agg #[.int .i64 (V : Int), .slice ag53 ng54 cg55, .int .i64 rN], .bool true]) rfl (by rfl) (by kernel_rfl) (by kernel_rfl) (reach_one (by kernel_rfl)) (by kernel_rfl) (by kernel_rfl) (fun _ _ _ h => h) (Or.inl ⟨by rfl, fun w hS => by obtain ⟨a0, a1, a2, b0, b1, b2⟩ := hS; go_simp⟩) ⟨a0, a1, a2, b0, b1, b2⟩ ?_
            simp only [List.getElem_toArray, List.getElem_cons_zero, List.getElem_cons_succ, Act.put, List.setIfInBounds_toArray, List.set_cons_zero, List.set_cons_succ]
            refine takeU (i := 6) (v := .agg #[.int .i64 (V : Int), .slice ag53 ng54 cg55, .int .i64 rN]) rfl (by rfl) (by kernel_rfl) (by kernel_rfl) (reach_one (by kernel_rfl)) (by kernel_rfl) (by kernel_rfl) (fun _ _ _ h => h) (Or.inl ⟨by rfl, fun w hS => by obtain ⟨a0, a1, a2, b0, b1, b2⟩ := hS; go_simp⟩) ⟨a0, a1, a2, b0, b1, b2⟩ ?_
            simp only [List.getElem_toArray, List.getElem_cons_zero, List.getElem_cons_succ, Act.put, List.setIfInBounds_toArray, List.set_cons_zero, List.set_cons_succ]
            refine takeU (i := 7) (v := .bool true) rfl (by rfl) (by kernel_rfl) (by kernel_rfl) (reach_one (by kernel_rfl)) (by kernel_rfl) (by kernel_rfl) (fun _ _ _ h => h) (Or.inl ⟨by rfl, fun w hS => by obtain ⟨a0, a1, a2, b0, b1, b2⟩ := hS; go_simp⟩) ⟨a0, a1, a2, b0, b1, b2⟩ ?_
            simp only [List.getElem_toArray, List.getElem_cons_zero, List.getElem_cons_succ, Act.put, List.setIfInBounds_toArray, List.set_cons_zero, List.set_cons_succ]
            have k0 := HQg57.out.c0
            have k1 := HQg57.out.c1
            have k2 := HQg57.out.c2
            have k3 := HQg57.out.f 0
            have k4 := HQg57.out.f 1
            have k5 := HQg57.out.f 2
            have k6 := HQg57.out.lt
            have HQZ := hideN (HQg57.out.set (.int .i64 (V : Int)) (.slice ag53 ng54 cg55) (.int .i64 rN))
            have HRZ := hideN (nds_of_own (row_base (row_of_block HWg58.out (fun k e => set3_other (.int .i64 (V : Int)) (.slice ag53 ng54 cg55) (.int .i64 rN) (HNEg56.out k e))) (Nat.zero_le _)) HLg59.out)
            have HBZ := hideN (set3_below hg50 hqg44 (.int .i64 (V : Int)) (.slice ag53 ng54 cg55) (.int .i64 rN))
            have n1' : A ≠ qg43 := by have := hqg44; have := hltA; omega
            have n2' : qg43 ≠ A := by have := hqg44; have := hltA; omega
            have n3' : B ≠ qg43 := by have := hqg44; have := hltB; omega
            have n4' : qg43 ≠ B := by have := hqg44; have := hltB; omega
            refine oneU (i := 9) (by kernel_rfl) rfl (by rfl) ?_
            simp only [List.getElem_toArray, List.getElem_cons_zero, List.getElem_cons_succ]
            go_simp
            refine oneU (i := 10) (by kernel_rfl) rfl (by rfl) ?_
            simp only [List.getElem_toArray, List.getElem_cons_zero, List.getElem_cons_succ]
            go_simp
            refine doneU (by kernel_rfl) ?_ _
            go_wp2_with fail
            go_meet
            case rel => exact ⟨qg43, ag53, ng54, cg55, rfl, rfl, HQZ, HRZ, HBZ, hqg44⟩
        · simp only [List.getElem_toArray, List.getElem_cons_zero, List.getElem_cons_succ]
          go_simp
          obtain ⟨Vg60, hVg63⟩ : ∃ V', V' = Vg1.alloc (.cells #[.int .i64 0, .slice none 0 0, .int .i64 0] 28) := ⟨_, rfl⟩
          try rw [← hVg63]
          have hbg61 : Below Vg1.heap.size Vg1 Vg60 := by rw [hVg63]; exact belOne _ _
          have HQg66 : Hid (BlkD Vg60 Vg1.heap.size (.int .i64 0) (.slice none 0 0) (.int .i64 0)) := by rw [hVg63]; exact BlkD.new _ _ _ _
          have hqg65 : V6.heap.size ≤ Vg1.heap.size := hg3.size
          have hg62 : Below V6.heap.size V6 Vg60 := belNext hg3 hbg61
          have HPg67 := hideN (HPg9.out.below hbg61)
          clear hVg63 hbg61
          generalize Vg1.heap.size = qg64 at *
          obtain ⟨a0, a1, a2, b0, b1, b2⟩ := HS.out Vg60 hg62
          refine ⟨⟨a0, a1, a2, b0, b1, b2⟩, ?_⟩
          refine oneU (i := 3) (by kernel_rfl) rfl (by rfl) ?_
          simp only [List.getElem_toArray, List.getElem_cons_zero, List.getElem_cons_succ]
          go_simp
          refine (HOQ6.out Vg60 hg62).mono ?_
          rintro e Vg68 ⟨ag73, ng74, cg75, rfl, hng71, hrg72, hbg69⟩
          have HPg76 := hideN (HPg67.out.below hbg69)
          have HQg77 := hideN (HQg66.out.below hbg69)
          have HRg78 := hideN (nds_of_own hrg72 hng71)
          clear hrg72 hng71
          have hg70 : Below V6.heap.size V6 Vg68 := belNext hg62 hbg69
          obtain ⟨a0, a1, a2, b0, b1, b2⟩ := HS.out Vg68 hg70
          refine ⟨⟨a0, a1, a2, b0, b1, b2⟩, ?_⟩
          refine oneU (i := 4) (by kernel_rfl) rfl (by rfl) ?_
          simp only [List.getElem_toArray, List.getElem_cons_zero, List.getElem_cons_succ]
          go_simp
          refine (HOD.out Vg68 ag6 ng7 cg8 ag73 ng74 cg75 HPg76.out HRg78.out).mono ?_
          rintro e Vg79 ⟨ag84, ng85, cg86, rfl, hng82, hrg83, hbg80⟩
          have HNEg87 : Hid (∀ k, (Value.slice ag84 ng85 cg86).ownBlock = some k → k ≠ qg64) := fun k e => by have := (World.ownsRow.lt hrg83 k e).1; have := HQg77.out.lt; omega
          have HQg88 := hideN (HQg77.out.below hbg80)
          have HWg89 := hideN hrg83
          have HLg90 := hideN hng82
          clear hrg83 hng82
          have hg81 : Below V6.heap.size V6 Vg79 := belNext hg70 hbg80
          obtain ⟨a0, a1, a2, b0, b1, b2⟩ := HS.out Vg79 hg81
          refine ⟨⟨a0, a1, a2, b0, b1, b2⟩, ?_⟩
          refine takeU (i := 5) (v := .tuple #[.agg #[.int .i64 (V : Int), .slice ag84 ng85 cg86, .int .i64 rN], .bool true]) rfl (by rfl) (by kernel_rfl) (by kernel_rfl) (reach_one (by kernel_rfl)) (by kernel_rfl) (by kernel_rfl) (fun _ _ _ h => h) (Or.inl ⟨by rfl, fun w hS => by obtain ⟨a0, a1, a2, b0, b1, b2⟩ := hS; go_simp⟩) ⟨a0, a1, a2, b0, b1, b2⟩ ?_
          simp only [List.getElem_toArray, List.getElem_cons_zero, List.getElem_cons_succ, Act.put, List.setIfInBounds_toArray, List.set_cons_zero, List.set_cons_succ]
          refine takeU (i := 6) (v := .agg #[.int .i64 (V : Int), .slice ag84 ng85 cg86, .int .i64 rN]) rfl (by rfl) (by kernel_rfl) (by kernel_rfl) (reach_one (by kernel_rfl)) (by kernel_rfl) (by kernel_rfl) (fun _ _ _ h => h) (Or.inl ⟨by rfl, fun w hS => by obtain ⟨a0, a1, a2, b0, b1, b2⟩ := hS; go_simp⟩) ⟨a0, a1, a2, b0, b1, b2⟩ ?_
          simp only [List.getElem_toArray, List.getElem_cons_zero, List.getElem_cons_succ, Act.put, List.setIfInBounds_toArray, List.set_cons_zero, List.set_cons_succ]
          refine takeU (i := 7) (v := .bool true) rfl (by rfl) (by kernel_rfl) (by kernel_rfl) (reach_one (by kernel_rfl)) (by kernel_rfl) (by kernel_rfl) (fun _ _ _ h => h) (Or.inl ⟨by rfl, fun w hS => by obtain ⟨a0, a1, a2, b0, b1, b2⟩ := hS; go_simp⟩) ⟨a0, a1, a2, b0, b1, b2⟩ ?_
          simp only [List.getElem_toArray, List.getElem_cons_zero, List.getElem_cons_succ, Act.put, List.setIfInBounds_toArray, List.set_cons_zero, List.set_cons_succ]
          have k0 := HQg88.out.c0
          have k1 := HQg88.out.c1
          have k2 := HQg88.out.c2
          have k3 := HQg88.out.f 0
          have k4 := HQg88.out.f 1
          have k5 := HQg88.out.f 2
          have k6 := HQg88.out.lt
          have HQZ := hideN (HQg88.out.set (.int .i64 (V : Int)) (.slice ag84 ng85 cg86) (.int .i64 rN))
          have HRZ := hideN (nds_of_own (row_base (row_of_block HWg89.out (fun k e => set3_other (.int .i64 (V : Int)) (.slice ag84 ng85 cg86) (.int .i64 rN) (HNEg87.out k e))) (Nat.zero_le _)) HLg90.out)
          have HBZ := hideN (set3_below hg81 hqg65 (.int .i64 (V : Int)) (.slice ag84 ng85 cg86) (.int .i64 rN))
          have n1' : A ≠ qg64 := by have := hqg65; have := hltA; omega
          have n2' : qg64 ≠ A := by have := hqg65; have := hltA; omega
          have n3' : B ≠ qg64 := by have := hqg65; have := hltB; omega
          have n4' : qg64 ≠ B := by have := hqg65; have := hltB; omega
          refine oneU (i := 9) (by kernel_rfl) rfl (by rfl) ?_
          simp only [List.getElem_toArray, List.getElem_cons_zero, List.getElem_cons_succ]
          go_simp
          refine oneU (i := 10) (by kernel_rfl) rfl (by rfl) ?_
          simp only [List.getElem_toArray, List.getElem_cons_zero, List.getElem_cons_succ]
          go_simp
          refine doneU (by kernel_rfl) ?_ _
          go_wp2_with fail
          go_meet
          case rel => exact ⟨qg64, ag84, ng85, cg86, rfl, rfl, HQZ, HRZ, HBZ, hqg65⟩
      · simp only [List.getElem_toArray, List.getElem_cons_zero, List.getElem_cons_succ]
        go_simp
        obtain ⟨Vg91, hVg94⟩ : ∃ V', V' = (V6.alloc (.cells #[.int .i64 0, .slice none 0 0, .int .i64 0] 28)).drew := ⟨_, rfl⟩
        try rw [← hVg94]
        have hg93 : Below V6.heap.size V6 Vg91 := by rw [hVg94]; exact belNext (belOne _ _) (below_drewN (Below.refl _ _) 1)
        have HQg97 : Hid (BlkD Vg91 V6.heap.size (.int .i64 0) (.slice none 0 0) (.int .i64 0)) := by rw [hVg94]; exact BlkD.new V6 _ _ _
        have hqg96 : V6.heap.size ≤ V6.heap.size := Nat.le_refl _
        clear hVg94
        obtain ⟨a0, a1, a2, b0, b1, b2⟩ := HS.out V6 (Below.refl _ _)
        refine ⟨⟨a0, a1, a2, b0, b1, b2⟩, ?_⟩
        obtain ⟨a0, a1, a2, b0, b1, b2⟩ := HS.out Vg91 hg93
        refine oneU (i := 1) (by kernel_rfl) rfl (by rfl) ?_
        simp only [List.getElem_toArray, List.getElem_cons_zero, List.getElem_cons_succ]
        go_simp
        refine (HOP6.out Vg91 hg93).mono ?_
        rintro e Vg98 ⟨ag103, ng104, cg105, rfl, hng101, hrg102, hbg99⟩
        have HQg106 := hideN (HQg97.out.below hbg99)
        have HPg107 := hideN (nds_of_own hrg102 hng101)
        clear hrg102 hng101
        have hg100 : Below V6.heap.size V6 Vg98 := belNext hg93 hbg99
        obtain ⟨a0, a1, a2, b0, b1, b2⟩ := HS.out Vg98 hg100
        refine ⟨⟨a0, a1, a2, b0, b1, b2⟩, ?_⟩
        refine oneU (i := 3) (by kernel_rfl) rfl (by rfl) ?_
        simp only [List.getElem_toArray, List.getElem_cons_zero, List.getElem_cons_succ]
        go_simp
        refine (HOQ6.out Vg98 hg100).mono ?_
        rintro e Vg108 ⟨ag113, ng114, cg115, rfl, hng111, hrg112, hbg109⟩
        have HPg116 := hideN (HPg107.out.below hbg109)
        have HQg117 := hideN (HQg106.out.below hbg109)
        have HRg118 := hideN (nds_of_own hrg112 hng111)
        clear hrg112 hng111
        have hg110 : Below V6.heap.size V6 Vg108 := belNext hg100 hbg109
        obtain ⟨a0, a1, a2, b0, b1, b2⟩ := HS.out Vg108 hg110
        refine ⟨⟨a0, a1, a2, b0, b1, b2⟩, ?_⟩
        refine oneU (i := 4) (by kernel_rfl) rfl (by rfl) ?_
        simp only [List.getElem_toArray, List.getElem_cons_zero, List.getElem_cons_succ]
        go_simp
        refine (HOD.out Vg108 ag103 ng104 cg105 ag113 ng114 cg115 HPg116.out HRg118.out).mono ?_
        rintro e Vg119 ⟨ag124, ng125, cg126, rfl, hng122, hrg123, hbg120⟩
        have HNEg127 : Hid (∀ k, (Value.slice ag124 ng125 cg126).ownBlock = some k → k ≠ V6.heap.size) := fun k e => by have := (World.ownsRow.lt hrg123 k e).1; have := HQg117.out.lt; omega
        have HQg128 := hideN (HQg117.out.below hbg120)
        have HWg129 := hideN hrg123
        have HLg130 := hideN hng122
        clear hrg123 hng122
        have hg121 : Below V6.heap.size V6 Vg119 := belNext hg110 hbg120
        obtain ⟨a0, a1, a2, b0, b1, b2⟩ := HS.out Vg119 hg121
        refine ⟨⟨a0, a1, a2, b0, b1, b2⟩, ?_⟩
        refine takeU (i := 5) (v := .tuple #[.agg #[.int .i64 (V : Int), .slice ag124 ng125 cg126, .int .i64 rN], .bool true]) rfl (by rfl) (by kernel_rfl) (by kernel_rfl) (reach_one (by kernel_rfl)) (by kernel_rfl) (by kernel_rfl) (fun _ _ _ h => h) (Or.inl ⟨by rfl, fun w hS => by obtain ⟨a0, a1, a2, b0, b1, b2⟩ := hS; go_simp⟩) ⟨a0, a1, a2, b0, b1, b2⟩ ?_
        simp only [List.getElem_toArray, List.getElem_cons_zero, List.getElem_cons_succ, Act.put, List.setIfInBounds_toArray, List.set_cons_zero, List.set_cons_succ]
        refine takeU (i := 6) (v := .agg #[.int .i64 (V : Int), .slice ag124 ng125 cg126, .int .i64 rN]) rfl (by rfl) (by kernel_rfl) (by kernel_rfl) (reach_one (by kernel_rfl)) (by kernel_rfl) (by kernel_rfl) (fun _ _ _ h => h) (Or.inl ⟨by rfl, fun w hS => by obtain ⟨a0, a1, a2, b0, b1, b2⟩ := hS; go_simp⟩) ⟨a0, a1, a2, b0, b1, b2⟩ ?_
        simp only [List.getElem_toArray, List.getElem_cons_zero, List.getElem_cons_succ, Act.put, List.setIfInBounds_toArray, List.set_cons_zero, List.set_cons_succ]
        refine takeU (i := 7) (v := .bool true) rfl (by rfl) (by kernel_rfl) (by kernel_rfl) (reach_one (by kernel_rfl)) (by kernel_rfl) (by kernel_rfl) (fun _ _ _ h => h) (Or.inl ⟨by rfl, fun w hS => by obtain ⟨a0, a1, a2, b0, b1, b2⟩ := hS; go_simp⟩) ⟨a0, a1, a2, b0, b1, b2⟩ ?_
        simp only [List.getElem_toArray, List.getElem_cons_zero, List.getElem_cons_succ, Act.put, List.setIfInBounds_toArray, List.set_cons_zero, List.set_cons_succ]
        have k0 := HQg128.out.c0
        have k1 := HQg128.out.c1
        have k2 := HQg128.out.c2
        have k3 := HQg128.out.f 0
        have k4 := HQg128.out.f 1
        have k5 := HQg128.out.f 2
        have k6 := HQg128.out.lt
        have HQZ := hideN (HQg128.out.set (.int .i64 (V : Int)) (.slice ag124 ng125 cg126) (.int .i64 rN))
        have HRZ := hideN (nds_of_own (row_base (row_of_block HWg129.out (fun k e => set3_other (.int .i64 (V : Int)) (.slice ag124 ng125 cg126) (.int .i64 rN) (HNEg127.out k e))) (Nat.zero_le _)) HLg130.out)
        have HBZ := hideN (set3_below hg121 hqg96 (.int .i64 (V : Int)) (.slice ag124 ng125 cg126) (.int .i64 rN))
        have n1' : A ≠ V6.heap.size := by have := hqg96; have := hltA; omega
        have n2' : V6.heap.size ≠ A := by have := hqg96; have := hltA; omega
        have n3' : B ≠ V6.heap.size := by have := hqg96; have := hltB; omega
        have n4' : V6.heap.size ≠ B := by have := hqg96; have := hltB; omega
        refine oneU (i := 9) (by kernel_rfl) rfl (by rfl) ?_
        simp only [List.getElem_toArray, List.getElem_cons_zero, List.getElem_cons_succ]
        go_simp
        refine oneU (i := 10) (by kernel_rfl) rfl (by rfl) ?_
        simp only [List.getElem_toArray, List.getElem_cons_zero, List.getElem_cons_succ]
        go_simp
        refine doneU (by kernel_rfl) ?_ _
        go_wp2_with fail
        go_meet
        case rel => exact ⟨V6.heap.size, ag124, ng125, cg126, rfl, rfl, HQZ, HRZ, HBZ, hqg96⟩
    case rest =>
      rename World => w7
      obtain ⟨Q, aw, mw, cw, rfl, rfl, HBQ, HNQ, HB67, hq⟩ := hcut
      clear HOD HOP6 HOQ6 hq
      have HD : Hid (∀ V', Below w7.heap.size w7 V' → V'.cell? ⟨A, 0, none⟩ = some (.int .i64 (V : Int)) ∧ V'.cell? ⟨A, 1, none⟩ = some (.slice ao n cap) ∧ V'.cell? ⟨A, 2, none⟩ = some (.int .i64 ra) ∧ V'.cell? ⟨B, 0, none⟩ = some (.int .i64 (V : Int)) ∧ V'.cell? ⟨B, 1, none⟩ = some (.slice bo n2 cap2) ∧ V'.cell? ⟨B, 2, none⟩ = some (.int .i64 rb) ∧ V'.cell? ⟨Y, 0, none⟩ = some (.int .i64 (V : Int)) ∧ V'.cell? ⟨Y, 1, none⟩ = some (.slice s5 m5 d5) ∧ V'.cell? ⟨Y, 2, none⟩ = some (.int .i64 rB) ∧ V'.cell? ⟨Z, 0, none⟩ = some (.int .i64 (V : Int)) ∧ V'.cell? ⟨Z, 1, none⟩ = some (.slice s6 m6 d6) ∧ V'.cell? ⟨Z, 2, none⟩ = some (.int .i64 rE) ∧ V'.cell? ⟨Q, 0, none⟩ = some (.int .i64 (V : Int)) ∧ V'.cell? ⟨Q, 1, none⟩ = some (.slice aw mw cw) ∧ V'.cell? ⟨Q, 2, none⟩ = some (.int .i64 rN)) := fun V' hV => by
        obtain ⟨a0, a1, a2, b0, b1, b2, x0, x1, x2, e0, e1, e2, y0, y1, y2, z0, z1, z2⟩ := HC6.out V' (belNext HB67.out hV)
        exact ⟨a0, a1, a2, b0, b1, b2, y0, y1, y2, z0, z1, z2, (HBQ.out.below hV).c0, (HBQ.out.below hV).c1, (HBQ.out.below hV).c2⟩
      go_wp2_with fail
      obtain ⟨a0, a1, a2, b0, b1, b2, y0, y1, y2, z0, z1, z2, q0, q1, q2⟩ := HD.out w7.drew (below_drewN (Below.refl _ _) 1)
      refine region_U (fin := 17) (S := fun V' => V'.cell? ⟨A, 0, none⟩ = some (.int .i64 (V : Int)) ∧ V'.cell? ⟨A, 1, none⟩ = some (.slice ao n cap) ∧ V'.cell? ⟨A, 2, none⟩ = some (.int .i64 ra) ∧ V'.cell? ⟨B, 0, none⟩ = some (.int .i64 (V : Int)) ∧ V'.cell? ⟨B, 1, none⟩ = some (.slice bo n2 cap2) ∧ V'.cell? ⟨B, 2, none⟩ = some (.int .i64 rb) ∧ V'.cell? ⟨Y, 0, none⟩ = some (.int .i64 (V : Int)) ∧ V'.cell? ⟨Y, 1, none⟩ = some (.slice s5 m5 d5) ∧ V'.cell? ⟨Y, 2, none⟩ = some (.int .i64 rB) ∧ V'.cell? ⟨Z, 0, none⟩ = some (.int .i64 (V : Int)) ∧ V'.cell? ⟨Z, 1, none⟩ = some (.slice s6 m6 d6) ∧ V'.cell? ⟨Z, 2, none⟩ = some (.int .i64 rE) ∧ V'.cell? ⟨Q, 0, none⟩ = some (.int .i64 (V : Int)) ∧ V'.cell? ⟨Q, 1, none⟩ = some (.slice aw mw cw) ∧ V'.cell? ⟨Q, 2, none⟩ = some (.int .i64 rN)) (by kernel_rfl) ⟨a0, a1, a2, b0, b1, b2, y0, y1, y2, z0, z1, z2, q0, q1, q2⟩ (fun hHeld => ?_)
      clear hHeld
      refine takeU (i := 0) (v := .agg #[.int .i64 (V : Int), .slice s6 m6 d6, .int .i64 rE]) rfl (by rfl) (by kernel_rfl) (by kernel_rfl) (reach_one (by kernel_rfl)) (by kernel_rfl) (by kernel_rfl) (fun _ _ _ h => h) (Or.inl ⟨by rfl, fun w hS => by obtain ⟨a0, a1, a2, b0, b1, b2, y0, y1, y2, z0, z1, z2, q0, q1, q2⟩ := hS; go_simp⟩) ⟨a0, a1, a2, b0, b1, b2, y0, y1, y2, z0, z1, z2, q0, q1, q2⟩ ?_
      simp only [List.getElem_toArray, List.getElem_cons_zero, Act.put, List.setIfInBounds_toArray, List.set_cons_zero, List.set_cons_succ]
      refine takeU (i := 2) (v := .agg #[.int .i64 (V : Int), .slice aw mw cw, .int .i64 rN]) rfl (by rfl) (by kernel_rfl) (by kernel_rfl) (reach_one (by kernel_rfl)) (by kernel_rfl) (by kernel_rfl) (fun _ _ _ h => h) (Or.inl ⟨by rfl, fun w hS => by obtain ⟨a0, a1, a2, b0, b1, b2, y0, y1, y2, z0, z1, z2, q0, q1, q2⟩ := hS; go_simp⟩) ⟨a0, a1, a2, b0, b1, b2, y0, y1, y2, z0, z1, z2, q0, q1, q2⟩ ?_
      simp only [List.getElem_toArray, List.getElem_cons_zero, List.getElem_cons_succ, Act.put, List.setIfInBounds_toArray, List.set_cons_zero, List.set_cons_succ]
      refine oneU (i := 1) (by kernel_rfl) rfl (by rfl) ?_
      simp only [List.getElem_toArray, List.getElem_cons_zero, List.getElem_cons_succ]
      go_simp
      have hbz := below_drewN (Below.refl w7.heap.size w7) 1
      refine (HNE.out w7.drew s6 m6 d6 (HN6.out w7.drew (belNext HB67.out hbz))).mono ?_
      rintro e w8 ⟨a8, m8, c8, rfl, hm8, hr8, hb8⟩
      have HB78 := hideN (belNext hbz hb8)
      have HN8 := hideN (nds_of_own hr8 hm8)
      obtain ⟨a0, a1, a2, b0, b1, b2, y0, y1, y2, z0, z1, z2, q0, q1, q2⟩ := HD.out w8 HB78.out
      refine ⟨⟨a0, a1, a2, b0, b1, b2, y0, y1, y2, z0, z1, z2, q0, q1, q2⟩, ?_⟩
      clear hbz hb8 hr8 hm8
      refine oneU (i := 3) (by kernel_rfl) rfl (by rfl) ?_
      simp only [List.getElem_toArray, List.getElem_cons_zero, List.getElem_cons_succ]
      go_simp
      refine (rgBdd_ok (va := (V : Int)) (ra := rN) HN8.out (HNQ.out.below HB78.out) HFN.out).mono ?_
      rintro e w9 ⟨rfl, hb9⟩
      have HB79 := hideN (belNext HB78.out hb9)
      obtain ⟨a0, a1, a2, b0, b1, b2, y0, y1, y2, z0, z1, z2, q0, q1, q2⟩ := HD.out w9 HB79.out
      refine ⟨⟨a0, a1, a2, b0, b1, b2, y0, y1, y2, z0, z1, z2, q0, q1, q2⟩, ?_⟩
      clear hb9
      refine takeU (i := 4) (v := .bool true) rfl (by rfl) (by kernel_rfl) (by kernel_rfl) (reach_one (by kernel_rfl)) (by kernel_rfl) (by kernel_rfl) (fun _ _ _ h => h) (Or.inl ⟨by rfl, fun w hS => by obtain ⟨a0, a1, a2, b0, b1, b2, y0, y1, y2, z0, z1, z2, q0, q1, q2⟩ := hS; go_simp⟩) ⟨a0, a1, a2, b0, b1, b2, y0, y1, y2, z0, z1, z2, q0, q1, q2⟩ ?_
      simp only [List.getElem_toArray, List.getElem_cons_zero, List.getElem_cons_succ, Act.put, List.setIfInBounds_toArray, List.set_cons_zero, List.set_cons_succ]
      refine takeU (i := 5) (v := .agg #[.int .i64 (V : Int), .slice s6 m6 d6, .int .i64 rE]) rfl (by rfl) (by kernel_rfl) (by kernel_rfl) (reach_one (by kernel_rfl)) (by kernel_rfl) (by kernel_rfl) (fun _ _ _ h => h) (Or.inl ⟨by rfl, fun w hS => by obtain ⟨a0, a1, a2, b0, b1, b2, y0, y1, y2, z0, z1, z2, q0, q1, q2⟩ := hS; go_simp⟩) ⟨a0, a1, a2, b0, b1, b2, y0, y1, y2, z0, z1, z2, q0, q1, q2⟩ ?_
      simp only [List.getElem_toArray, List.getElem_cons_zero, List.getElem_cons_succ, Act.put, List.setIfInBounds_toArray, List.set_cons_zero, List.set_cons_succ]
      refine takeU (i := 7) (v := .agg #[.int .i64 (V : Int), .slice s5 m5 d5, .int .i64 rB]) rfl (by rfl) (by kernel_rfl) (by kernel_rfl) (reach_one (by kernel_rfl)) (by kernel_rfl) (by kernel_rfl) (fun _ _ _ h => h) (Or.inl ⟨by rfl, fun w hS => by obtain ⟨a0, a1, a2, b0, b1, b2, y0, y1, y2, z0, z1, z2, q0, q1, q2⟩ := hS; go_simp⟩) ⟨a0, a1, a2, b0, b1, b2, y0, y1, y2, z0, z1, z2, q0, q1, q2⟩ ?_
      simp only [List.getElem_toArray, List.getElem_cons_zero, List.getElem_cons_succ, Act.put, List.setIfInBounds_toArray, List.set_cons_zero, List.set_cons_succ]
      refine takeU (i := 10) (v := .agg #[.int .i64 (V : Int), .slice ao n cap, .int .i64 ra]) rfl (by rfl) (by kernel_rfl) (by kernel_rfl) (reach_one (by kernel_rfl)) (by kernel_rfl) (by kernel_rfl) (fun _ _ _ h => h) (Or.inl ⟨by rfl, fun w hS => by obtain ⟨a0, a1, a2, b0, b1, b2, y0, y1, y2, z0, z1, z2, q0, q1, q2⟩ := hS; go_simp⟩) ⟨a0, a1, a2, b0, b1, b2, y0, y1, y2, z0, z1, z2, q0, q1, q2⟩ ?_
      simp only [List.getElem_toArray, List.getElem_cons_zero, List.getElem_cons_succ, Act.put, List.setIfInBounds_toArray, List.set_cons_zero, List.set_cons_succ]
      refine takeU (i := 12) (v := .agg #[.int .i64 (V : Int), .slice bo n2 cap2, .int .i64 rb]) rfl (by rfl) (by kernel_rfl) (by kernel_rfl) (reach_one (by kernel_rfl)) (by kernel_rfl) (by kernel_rfl) (fun _ _ _ h => h) (Or.inl ⟨by rfl, fun w hS => by obtain ⟨a0, a1, a2, b0, b1, b2, y0, y1, y2, z0, z1, z2, q0, q1, q2⟩ := hS; go_simp⟩) ⟨a0, a1, a2, b0, b1, b2, y0, y1, y2, z0, z1, z2, q0, q1, q2⟩ ?_
      simp only [List.getElem_toArray, List.getElem_cons_zero, List.getElem_cons_succ, Act.put, List.setIfInBounds_toArray, List.set_cons_zero, List.set_cons_succ]
      refine oneU (i := 6) (by kernel_rfl) rfl (by rfl) ?_
      simp only [List.getElem_toArray, List.getElem_cons_zero, List.getElem_cons_succ]
      go_simp
      refine (HKE.out w9 s6 m6 d6 (HN6.out w9 (belNext HB67.out HB79.out))).mono ?_
      rintro e w10 ⟨rfl, hb10⟩
      have HB710 := hideN (belNext HB79.out hb10)
      obtain ⟨a0, a1, a2, b0, b1, b2, y0, y1, y2, z0, z1, z2, q0, q1, q2⟩ := HD.out w10 HB710.out
      refine ⟨⟨a0, a1, a2, b0, b1, b2, y0, y1, y2, z0, z1, z2, q0, q1, q2⟩, ?_⟩
      clear hb10
      refine oneU (i := 8) (by kernel_rfl) rfl (by rfl) ?_
      simp only [List.getElem_toArray, List.getElem_cons_zero, List.getElem_cons_succ]
      go_simp
      refine (HKO.out w10 s5 m5 d5 (HN5V.out w10 (belNext HB67.out HB710.out))).mono ?_
      rintro e w11 ⟨rfl, hb11⟩
      have HB711 := hideN (belNext HB710.out hb11)
      obtain ⟨a0, a1, a2, b0, b1, b2, y0, y1, y2, z0, z1, z2, q0, q1, q2⟩ := HD.out w11 HB711.out
      refine ⟨⟨a0, a1, a2, b0, b1, b2, y0, y1, y2, z0, z1, z2, q0, q1, q2⟩, ?_⟩
      clear hb11
      have hw1 : IntKind.i64.wrap (ce + co) = ca + cb := by rw [IntKind.wrap_i64]; omega
      have hw2 : IntKind.i64.wrap (ca + cb) = ca + cb := by rw [IntKind.wrap_i64]; omega
      refine takeU (i := 9) (v := .int .i64 (ca + cb)) rfl (by rfl) (by kernel_rfl) (by kernel_rfl) (reach_one (by kernel_rfl)) (by kernel_rfl) (by kernel_rfl) (fun _ _ _ h => h) (Or.inl ⟨by rfl, fun w hS => by obtain ⟨a0, a1, a2, b0, b1, b2, y0, y1, y2, z0, z1, z2, q0, q1, q2⟩ := hS; go_simp⟩) ⟨a0, a1, a2, b0, b1, b2, y0, y1, y2, z0, z1, z2, q0, q1, q2⟩ ?_
      simp only [List.getElem_toArray, List.getElem_cons_zero, List.getElem_cons_succ, Act.put, List.setIfInBounds_toArray, List.set_cons_zero, List.set_cons_succ]
      refine oneU (i := 11) (by kernel_rfl) rfl (by rfl) ?_
      simp only [List.getElem_toArray, List.getElem_cons_zero, List.getElem_cons_succ]
      go_simp
      refine (HKA6.out w11 (belNext HB67.out HB711.out)).mono ?_
      rintro e w12 ⟨rfl, hb12⟩
      have HB712 := hideN (belNext HB711.out hb12)
      obtain ⟨a0, a1, a2, b0, b1, b2, y0, y1, y2, z0, z1, z2, q0, q1, q2⟩ := HD.out w12 HB712.out
      refine ⟨⟨a0, a1, a2, b0, b1, b2, y0, y1, y2, z0, z1, z2, q0, q1, q2⟩, ?_⟩
      clear hb12
      refine oneU (i := 13) (by kernel_rfl) rfl (by rfl) ?_
      simp only [List.getElem_toArray, List.getElem_cons_zero, List.getElem_cons_succ]
      go_simp
      refine (HKB6.out w12 (belNext HB67.out HB712.out)).mono ?_
      rintro e w13 ⟨rfl, hb13⟩
      have HB713 := hideN (belNext HB712.out hb13)
      have HBE := hideN (belNext HBW6.out (belNext HB67.out HB713.out))
      obtain ⟨a0, a1, a2, b0, b1, b2, y0, y1, y2, z0, z1, z2, q0, q1, q2⟩ := HD.out w13 HB713.out
      refine ⟨⟨a0, a1, a2, b0, b1, b2, y0, y1, y2, z0, z1, z2, q0, q1, q2⟩, ?_⟩
      clear hb13
      refine takeU (i := 14) (v := .int .i64 (ca + cb)) rfl (by rfl) (by kernel_rfl) (by kernel_rfl) (reach_one (by kernel_rfl)) (by kernel_rfl) (by kernel_rfl) (fun _ _ _ h => h) (Or.inl ⟨by rfl, fun w hS => by obtain ⟨a0, a1, a2, b0, b1, b2, y0, y1, y2, z0, z1, z2, q0, q1, q2⟩ := hS; go_simp⟩) ⟨a0, a1, a2, b0, b1, b2, y0, y1, y2, z0, z1, z2, q0, q1, q2⟩ ?_
      simp only [List.getElem_toArray, List.getElem_cons_zero, List.getElem_cons_succ, Act.put, List.setIfInBounds_toArray, List.set_cons_zero, List.set_cons_succ]
      refine takeU (i := 15) (v := .bool true) rfl (by rfl) (by kernel_rfl) (by kernel_rfl) (reach_one (by kernel_rfl)) (by kernel_rfl) (by kernel_rfl) (fun _ _ _ h => h) (Or.inl ⟨by rfl, fun w hS => by obtain ⟨a0, a1, a2, b0, b1, b2, y0, y1, y2, z0, z1, z2, q0, q1, q2⟩ := hS; go_simp⟩) ⟨a0, a1, a2, b0, b1, b2, y0, y1, y2, z0, z1, z2, q0, q1, q2⟩ ?_
      simp only [List.getElem_toArray, List.getElem_cons_zero, List.getElem_cons_succ, Act.put, List.setIfInBounds_toArray, List.set_cons_zero, List.set_cons_succ]
      refine takeU (i := 16) (v := .bool true) rfl (by rfl) (by kernel_rfl) (by kernel_rfl) (reach_one (by kernel_rfl)) (by kernel_rfl) (by kernel_rfl) (fun _ _ _ h => h) (Or.inl ⟨by rfl, fun w hS => by obtain ⟨a0, a1, a2, b0, b1, b2, y0, y1, y2, z0, z1, z2, q0, q1, q2⟩ := hS; go_simp⟩) ⟨a0, a1, a2, b0, b1, b2, y0, y1, y2, z0, z1, z2, q0, q1, q2⟩ ?_
      simp only [List.getElem_toArray, List.getElem_cons_zero, List.getElem_cons_succ, Act.put, List.setIfInBounds_toArray, List.set_cons_zero, List.set_cons_succ]
      refine oneU (i := 17) (by kernel_rfl) rfl (by rfl) ?_
      simp only [List.getElem_toArray, List.getElem_cons_zero, List.getElem_cons_succ]
      go_simp
      refine doneU (by kernel_rfl) ?_ _
      go_wp2
      go_ret
      exact ⟨rfl, HBE.out⟩

set_option maxRecDepth 100000 in
theorem fnBddParts_lifted (os : Os) (started : os.Started) (H : Type) (enc : TypeId × Value → H) :
    ReturnsInHanded {} Try.checked os 6 .any (Rows.fnBddPartsSpec.pre6 enc Try.prog Try.f6 Rows.fnBddPartsRow.domain false) (Rows.fnBddPartsSpec.post enc Try.prog Try.f6 false true false false) := by
  refine returnsInHanded_of_change (C := Try.checked) own started (by kernel_rfl) Try.func6
    (ChangeSpec.witness6 (enc := enc) (C := Try.checked) false ⟨#[], #[.slice none 0 0], []⟩ 8 (by kernel_rfl) (by kernel_rfl) (by kernel_rfl) (by kernel_rfl)) ?_
  intro W base args ds gs before hval0 hW hcnd _
  have hval : ∀ (j : Nat) t v, Try.f6.params[j]? = some t → args[j]? = some v → Value.okWide Try.prog W .any base t v := hval0
  have hW' := hW
  obtain ⟨p, q, hA0, hV, rfl, hfz, hnd⟩ := hW
  have hA : DataW.TrodAll enc Try.prog W 0 (fun _ => true) true Try.f6.params.toList args.toList ds p := hA0
  rw [Try.params6] at hA hval
  obtain ⟨v0, vs0, d0, ds0, p0, q0, hargs, rfl, rfl, h0, r0⟩ := trodAll_cons hA
  obtain ⟨rfl, rfl, rfl⟩ := trodAll_nil r0
  obtain rfl : args = #[v0] := by cases args; simp_all
  obtain ⟨rfl, rfl⟩ := trodVars_none hV
  have k0 := h0
  have lt0 : ∀ x ∈ p0, x.block < W.heap.size := by obtain ⟨m, hm⟩ := k0; exact DataW.trod_lt m _ _ _ hm
  have hv0 := hval 0 22 v0 rfl rfl
  obtain ⟨ao, len, cap, rfl⟩ := okWide_slice Try.underlying22 hv0
  obtain ⟨fuel, hf⟩ := h0
  obtain ⟨bs, hbs, hml⟩ := isBytes_of_trod (by simpa [Value.cells] using hf)
  clear hA0 hval0
  refine (fnBddParts_walk _ bs W hbs (fun ao' n' cap' b off h1 h2 => by cases h1; subst h2; exact okWide_slice_lt Try.underlying22 hv0) hml).mono fun e W' ⟨he, bel⟩ => ?_
  subst he
  exact ⟨_, rfl, _, _, _, [], _, [], hW', trodAll_mk1 (shut_bool Try.underlying4 _), (trodAll_cons_mk (Below.trod laidOutN (by kernel_rfl) (of_decide_eq_true (by kernel_rfl)) k0 bel lt0) trodAll_mk0), rfl, bel.frame _, fun h => by cases h⟩

theorem fnBddParts_holds : Rows.FnBddPartsSaid :=
  OpenClaim.holds_of_wide 6 Try.f6 rfl rfl rfl rfl rfl rfl rfl ⟨rfl, rfl, rfl, rfl, rfl⟩ rfl rfl rfl rfl rfl (by kernel_rfl) Try.func6 (by kernel_rfl)
    (of_decide_eq_true (by kernel_rfl)) (by unfold Func.isWrapper; first | (rw [if_pos (by decide +kernel)]; kernel_rfl) | (rw [if_neg (by decide +kernel)]; exact ⟨rfl, rfl⟩))
    (fun os started H enc _ => fnBddParts_lifted os started H enc)

end Go.Proofs.Ytmkbcfiechoebaa
