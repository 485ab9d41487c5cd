/-
  Marks in the lists of an expression: markExpS, markExp.
-/
import Derived.Test.YthflidipkjpgcaaExpK
import Derived.Test.YthflidipkjpgcaaNmE
namespace Go.Proofs.Ythflidipkjpgcaa
open Go.RowKit Go.Deep
set_option linter.unusedVariables false

attribute [local go_sem] Oper.semAt_some

/-- What marking leaves: a greater number, and of what there was just rows of the lists turned, and there not what is below. -/
def MarkPost (lo hi m : Nat) (K : Nat) (w : World) (e : Ending) (w' : World) : Prop := ∃ K', e = .returned (.int .i64 ((K' : Nat) : Int)) ∧ K ≤ K' ∧ K' ≤ K + m ∧ Kp3 lo w w' ∧ Chg (fun k => lo ≤ k ∧ k < hi) w w'

set_option maxRecDepth 100000 in
set_option maxHeartbeats 8000000 in
theorem markExpS_any (lo hi : Nat) : ∀ (t : ExpT), totE t ≤ 1048576 → ∀ (v : Value) (K : Nat) (w : World), IsM w lo hi t v → K + 3 * (sizeT t - 1) ≤ 10000000 →
    Calls Try.prog 22 #[v, .int .i64 (K : Int)] w (MarkPost lo hi (3 * (sizeT t - 1)) K w) := by
  refine ExpT.ind (fun k n s ks ih ht v K w hM hK => ?_)
  obtain ⟨ao, cap, rfl, hL⟩ := isM_node.1 hM
  rw [totE] at ht
  rw [sizeT] at hK
  rw [sizeT]
  have HIH := hideN (fun j (hj : j < ks.length) (v : Value) (K : Nat) (w : World) (a : IsM w lo hi (ks.getD j e0) v) (b : K + 3 * (sizeT (ks.getD j e0) - 1) ≤ 10000000) => by
    have hm : ks.getD j e0 ∈ ks := by rw [List.getD, List.getElem?_eq_getElem hj]; simp
    have := totL_mem hm
    exact ih (ks.getD j e0) hm (by omega) v K w a b)
  have HL := hideN (fun W (hk : Kp3 lo w W) => hL.kept hk)
  have HTS := hideN (fun j (hj : j < ks.length) => sizeL_take_succ ks j hj)
  have HTL := hideN (fun j => sizeL_take_le ks j)
  have HSP := hideN (fun t : ExpT => (show 1 ≤ sizeT t from by obtain ⟨a, b, c, d⟩ := t; rw [sizeT]; omega))
  have HMT := hideN (fun q (h : q ≤ 100000000) W => markText_any q h W)
  have hkl : ks.length ≤ 1048576 := by omega
  obtain ⟨S, hS⟩ : ∃ S, sizeL ks = S := ⟨_, rfl⟩
  have HTF : Hid (sizeL (ks.take ks.length) = S) := by show _ = _; rw [List.take_length, hS]
  rw [hS] at hK HTL ⊢
  obtain ⟨kn, hkn⟩ : ∃ kn, ks.length = kn := ⟨_, rfl⟩
  have HKN := hideN hkn
  rw [hkn] at HIH HTS HTF hkl ⊢
  clear ih hM hL hS hkn ht
  unfold MarkPost
  go_enter Try.func22, Try.ntmps22
  go_wp2_with fail
  go_loopw [1, 5] (fun q i wr => ∃ j z : Nat, j ≤ kn ∧ i = .int .i64 (j : Int) ∧ q = .int .i64 (z : Int) ∧ K ≤ z ∧ z ≤ K + 3 * sizeL (ks.take j) ∧ Hid (Kp3 lo w wr) ∧ Hid (Chg (fun k => lo ≤ k ∧ k < hi) w wr)) (fun _ i _ => kn - (intOf i).toNat)
  case atStart => exact ⟨0, K, Nat.zero_le _, rfl, rfl, Nat.le_refl _, Nat.le_add_right _ _, Kp3.refl _ _, Chg.refl _ _⟩
  case round =>
    obtain ⟨j, z, hj, rfl, rfl, hz1, hz2, HKP, HCH⟩ := hrel
    by_cases hlt : j < kn
    · have hk2 := HKN.out
      obtain ⟨b, hao, hlo, hhi, ⟨F, hF⟩, hcs⟩ := HL.out wr HKP.out (by omega)
      subst hao
      rw [hk2] at hF
      have hts := HTS.out j hlt
      have htl := HTL.out (j + 1)
      have hsp := HSP.out (ks.getD j e0)
      have d0 := hF.cell (i := j * 4) (by omega)
      have d1 := hF.cell (i := j * 4 + 1) (by omega)
      have d2 := hF.cell (i := j * 4 + 2) (by omega)
      have d3 := hF.cell (i := j * 4 + 3) (by omega)
      have g0 := hF.frozen (j * 4)
      have g1 := hF.frozen (j * 4 + 1)
      have g2 := hF.frozen (j * 4 + 2)
      obtain ⟨u, hcu, hu⟩ := hcs j (by omega)
      obtain ⟨ua, um, uc, rfl⟩ : ∃ ua um uc, u = .slice ua um uc := by
        generalize ks.getD j e0 = tt at hu
        obtain ⟨k9, n9, s9, ks9⟩ := tt
        obtain ⟨ua, uc, e, _⟩ := isM_node.1 hu
        exact ⟨_, _, _, e⟩
      have hfu : F (j * 4 + 3) = .slice ua um uc := by rw [d3] at hcu; exact Option.some.inj hcu
      have hjk : decide ((j : Int) < (kn : Int)) = true := by simp; omega
      have HCL := hideN (fun W => HMT.out (z + 2) (by omega) W)
      obtain ⟨M, hM⟩ : ∃ M, mkT (z + 2) = M := ⟨_, rfl⟩
      rw [hM] at HCL
      clear hM hcs
      obtain ⟨V2, hV2⟩ : ∃ V2, V2 = (wr.setCell ⟨b, j * 4, none⟩ (.int .i64 (z : Int))).setCell ⟨b, j * 4 + 1, none⟩ (.int .i64 ((z : Int) + 1)) := ⟨_, rfl⟩
      have HR2 := hideN (show V2.rowIs b 30 (kn * 4) _ from by rw [hV2]; exact (hF.set (j * 4) _).set (j * 4 + 1) _)
      have HK2 : Hid (Kp3 lo wr V2) := by rw [hV2]; exact (Kp3.set lo b (j * 4) _ wr (by omega)).trans (Kp3.set lo b (j * 4 + 1) _ _ (by omega))
      have HC2 : Hid (Chg (fun k => lo ≤ k ∧ k < hi) wr V2) := by
        rw [hV2]
        exact ((Chg.set _ _ _ _).mono (fun k e => by subst e; exact ⟨hlo, hhi⟩)).trans ((Chg.set _ _ _ _).mono (fun k e => by subst e; exact ⟨hlo, hhi⟩))
      have HV2 := hideN hV2
      have HU := hideN hu
      have HFU := hideN hfu
      have HFR := hideN hF
      clear hV2 hu hcu d2 d3 g2 hfu hF
      go_wp2_with fail
      try rw [← HV2.out]
      refine (HCL.out V2).mono ?_
      rintro e w2 ⟨rfl, hb2⟩
      have hr2 := HR2.out.of_block (hb2.block _ HR2.out.lt)
      have d2 := hr2.cell (i := j * 4 + 2) (by omega)
      have g2 := hr2.frozen (j * 4 + 2)
      have d3w : w2.cell? ⟨b, j * 4 + 3, none⟩ = some (.slice ua um uc) := by
        obtain ⟨F3, hF3, he3⟩ := (HK2.out.trans (Kp3.below hb2)) b hlo _ F HFR.out
        rw [hF3.cell (i := j * 4 + 3) (by omega), he3 _ (by omega), HFU.out]
      obtain ⟨V3, hV3⟩ : ∃ V3, V3 = w2.setCell ⟨b, j * 4 + 2, none⟩ (encStr M) := ⟨_, rfl⟩
      have HK3 : Hid (Kp3 lo wr V3) := by rw [hV3]; exact HK2.out.trans ((Kp3.below hb2).trans (Kp3.set lo b (j * 4 + 2) _ w2 (by omega)))
      have HC3 : Hid (Chg (fun k => lo ≤ k ∧ k < hi) wr V3) := by
        rw [hV3]
        exact HC2.out.trans ((Chg.of_below hb2).trans ((Chg.set _ _ _ _).mono (fun k e => by subst e; exact ⟨hlo, hhi⟩)))
      have HCM := hideN (HIH.out j hlt (.slice ua um uc) (z + 3) V3 (HU.out.kept HK3.out _ _) (by omega))
      have e3 : ((z + 3 : Nat) : Int) = (z : Int) + 3 := by omega
      rw [e3] at HCM
      have HV3 := hideN hV3
      clear hV3 hb2 hr2 d0 d1 g0 g1
      obtain ⟨T, hT⟩ : ∃ T, sizeT (ks.getD j e0) = T := ⟨_, rfl⟩
      rw [hT] at HCM hts hsp
      clear hT
      go_wp2_with fail
      try rw [← HV3.out]
      refine HCM.out.mono ?_
      rintro e w4 ⟨z4, rfl, hz4, hz5, hk4, hc4⟩
      have HK4 := hideN (HKP.out.trans (HK3.out.trans hk4))
      have HC4 := hideN (HCH.out.trans (HC3.out.trans hc4))
      clear hk4 hc4 d2 g2 d3w
      go_wp2_with fail
      go_roundw
      case rel => exact ⟨j + 1, z4, by omega, by go_num, rfl, by omega, by omega, HK4, HC4⟩
      case measure => simp [intOf]; omega
    · obtain rfl : j = kn := by omega
      have hz3 : z ≤ K + 3 * (1 + S - 1) := by have h9 := HTF.out; rw [h9] at hz2; omega
      go_wp2_with fail
      exact bodyPost_ret (v := .int .i64 (z : Int)) (by simp [results, Try.results22, go_sem]) rfl ⟨z, rfl, hz1, hz3, HKP.out, HCH.out⟩

set_option maxRecDepth 100000 in
set_option maxHeartbeats 4000000 in
theorem markExp_any (lo hi : Nat) (t : ExpT) (ht : totE t ≤ 1048576) (v : Value) (k0 n0 : Int) (s0 : ByteArray) (ao : Option Addr) (m c : Nat) (hv : v = .agg #[.int .i64 k0, .int .i64 n0, .string s0, .slice ao m c]) (w : World) (hM : IsM w lo hi t (kidsV v)) :
    Calls Try.prog 10 #[v, .int .i64 1] w (MarkPost lo hi (3 * (sizeT t - 1)) 1 w) := by
  subst hv
  have hsz := sizeT_le t
  obtain ⟨W1, hW1⟩ : ∃ W1, W1 = w.alloc (.cells #[.int .i64 k0, .int .i64 n0, .string s0, .slice ao m c] 30) := ⟨_, rfl⟩
  have hb1 : Below w.heap.size w W1 := by rw [hW1]; exact belOne _ _
  have HCL := hideN (markExpS_any lo hi t ht (.slice ao m c) 1 W1 ((show IsM w lo hi t (.slice ao m c) from hM).kept (Kp3.below hb1) _ _) (by omega))
  have HW1 := hideN hW1
  have HB1 := hideN hb1
  clear hM hW1 hb1
  unfold MarkPost at *
  go_enter Try.func10, Try.ntmps10
  go_wp2_with fail
  try rw [← HW1.out]
  refine HCL.out.mono ?_
  rintro e w2 ⟨z, rfl, h1, h2, h3, h4⟩
  have HK := hideN ((Kp3.below (lo := lo) HB1.out).trans h3)
  have HC := hideN ((Chg.of_below (p := fun k => lo ≤ k ∧ k < hi) HB1.out).trans h4)
  clear h3 h4
  go_wp2_with fail
  exact bodyPost_ret (v := .int .i64 (z : Int)) (by simp [results, Try.results10, go_sem]) rfl ⟨z, rfl, h1, h2, HK.out, HC.out⟩

end Go.Proofs.Ythflidipkjpgcaa
