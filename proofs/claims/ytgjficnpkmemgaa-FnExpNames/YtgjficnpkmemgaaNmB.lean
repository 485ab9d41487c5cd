/-
  Names of an expression, by the model: l5Names, ExpNames.
-/
import Derived.Test.YtgjficnpkmemgaaNmA
import Derived.Test.YtgjficnpkmemgaaExpM
namespace Go.Proofs.Ytgjficnpkmemgaa
open Go.RowKit Go.Deep Go.Proofs
set_option linter.unusedVariables false

attribute [local go_sem] Oper.semAt_some

set_option maxRecDepth 100000 in
set_option maxHeartbeats 8000000 in
theorem l5Names_any (lo : Nat) : ∀ (t : ExpT), totE t ≤ 1048576 → ∀ (v : Value) (b off n cap : Nat) (ss : List Bs) (w : World), IsE w lo t v → AtT w b off ss → ss.length = n → n ≤ cap → cap ≤ maxLen → n + sizeT t ≤ 1000 →
    Calls Try.prog 15 #[v, .slice (some ⟨b, off, none⟩) n cap] w (PutPost (putAll ss (namesT t)) w) := by
  refine ExpT.ind (fun k n s ks ih ht v b off m cap ss w hE hA hm hmc hcm hsz => ?_)
  obtain ⟨ao, cp, rfl, ⟨hk, hnn, hs, hc, hcm2⟩, hL⟩ := isE_node.1 hE
  rw [totE] at ht
  rw [sizeT] at hsz
  obtain ⟨W1, hW1⟩ : ∃ W1, W1 = w.alloc (.cells #[.int .i64 k, .int .i64 n, .string s, .slice ao ks.length cp] 25) := ⟨_, rfl⟩
  have HB1 : Hid (Below w.heap.size w W1) := by rw [hW1]; exact belOne _ _
  have HK : Hid (BlkE W1 w.heap.size (.int .i64 k) (.int .i64 n) (.string s) (.slice ao ks.length cp) 25) := by rw [hW1]; exact BlkE.new _ _ _ _ _ _
  have HL := hideN (hL.below HB1.out)
  have HA1 := hideN (hA.below HB1.out)
  have HW1 := hideN hW1
  have b0 := HK.out.c0
  have b2 := HK.out.c2
  by_cases h4 : k = 4
  · subst h4
    have hr : putAll ss (namesT (.node 4 n s ks)) = putN ss s.data.toList := by rw [namesT, if_pos rfl, putAll_one]
    rw [hr]
    have HCL := hideN (l5Put_any b off m cap ss s W1 hm hmc hcm HA1.out (by omega))
    generalize putN ss s.data.toList = L at *
    clear ih hE hL hW1 hA hm
    go_enter Try.func15, Try.ntmps15
    go_wp2_with fail
    try rw [← HW1.out]
    go_wp2_with fail
    refine HCL.out.mono ?_
    rintro e w2 ⟨b', off', n', cap', rfl, hl, hnc', hcm', hA', hb2⟩
    have HB2 := hideN (belNext HB1.out hb2)
    have HA' := hideN hA'
    have HLL := hideN hl
    clear hb2 hA' b0 b2 hl
    go_wp2_with fail
    exact bodyPost_ret (v := .slice (some ⟨b', off', none⟩) n' cap') (by simp [results, Try.results15, go_sem]) rfl ⟨b', off', n', cap', rfl, HLL.out, hnc', hcm', HA'.out, HB2.out⟩
  have hr : putAll ss (namesT (.node k n s ks)) = putAll ss (namesL ks) := by rw [namesT, if_neg h4]
  rw [hr]
  clear hr
  have q4 : (k == 4) = false := by simpa using h4
  have HIH := hideN (fun j (hj : j < ks.length) (v : Value) (b off n cap : Nat) (ss : List Bs) (w : World) (c : IsE w lo (ks.getD j e0) v) (hA : AtT w b off ss) (h1 : ss.length = n) (h2 : n ≤ cap) (h3 : cap ≤ maxLen) (h4 : n + sizeT (ks.getD j e0) ≤ 1000) => by
    have hm : ks.getD j e0 ∈ ks := by rw [List.getD, List.getElem?_eq_getElem hj]; simp
    have := totL_mem hm
    exact ih (ks.getD j e0) hm (by omega) v b off n cap ss w c hA h1 h2 h3 h4)
  have HNS := hideN (fun j (hj : j < ks.length) => namesL_take_succ ks j hj)
  have HSZ := hideN (fun j (hj : j < ks.length) => (show m + sizeL (ks.take j) + sizeT (ks.getD j e0) ≤ 999 from by
    have h1 := sizeL_take_succ ks j hj
    have h2 := sizeL_take_le ks (j + 1)
    omega))
  have HSL := hideN (fun j (hj : j < ks.length) => sizeL_take_succ ks j hj)
  have HNF : Hid (namesL (ks.take ks.length) = namesL ks) := by show _ = _; rw [List.take_length]
  have HNZ := hideN (fun t : ExpT => namesT_size t)
  have hkl : ks.length ≤ 1048576 := by omega
  obtain ⟨kn, hkn⟩ : ∃ kn, ks.length = kn := ⟨_, rfl⟩
  have HKN := hideN hkn
  have HM := hideN hm
  rw [hkn] at HIH HK HW1 HNS HSZ HSL HNF hc hkl ⊢
  clear ih hE hL hW1 hA hkn hm hk hnn hs hsz ht b2
  go_enter Try.func15, Try.ntmps15
  go_wp2_with fail
  try rw [← HW1.out]
  go_wp2_with fail
  obtain ⟨B, hB⟩ : ∃ B, w.heap.size = B := ⟨_, rfl⟩
  have hBB := hideN hB
  rw [hB] at HK
  try rw [hB]
  clear hB b0
  go_loopw [1, 5] (fun o i wr => ∃ (j b' off' n' cap' : Nat) (L : List Bs), j ≤ kn ∧ i = .int .i64 (j : Int) ∧ o = .slice (some ⟨b', off', none⟩) n' cap' ∧ n' ≤ cap' ∧ cap' ≤ maxLen ∧ n' ≤ m + sizeL (ks.take j) ∧ Hid (L.length = n') ∧ Hid (L = putAll ss (namesL (ks.take j))) ∧ Hid (AtT wr b' off' L) ∧ Hid (Below W1.heap.size W1 wr)) (fun _ i _ => kn - (intOf i).toNat)
  case atStart => exact ⟨0, b, off, m, cap, ss, Nat.zero_le _, rfl, rfl, hmc, hcm, Nat.le_add_right _ _, HM.out, by show ss = putAll ss (namesL (ks.take 0)); rw [List.take_zero, namesL]; rfl, HA1.out, Below.refl _ _⟩
  case round =>
    obtain ⟨j, b', off', n', cap', L, hj, rfl, rfl, hnc', hcm', hns, HLL, HLE, HAL, HBR⟩ := hrel
    have b3 := (HK.out.below HBR.out).c3
    by_cases hlt : j < kn
    · obtain ⟨kb, koff, hao, hlo, hcs⟩ := (HL.out.below HBR.out) (by have := HKN.out; omega)
      subst hao
      obtain ⟨v, ⟨v0, v1, v2, v3, rfl, c0, c1, c2, c3⟩, he⟩ := hcs j (by have := HKN.out; omega)
      have hszj := HSZ.out j hlt
      have HCL := hideN (HIH.out j hlt _ b' off' n' cap' L wr he HAL.out HLL.out hnc' hcm' (by omega))
      have hq : putAll L (namesT (ks.getD j e0)) = putAll ss (namesL (ks.take (j + 1))) := by rw [HNS.out j hlt, putAll_append, HLE.out]
      have hql := putAll_length (namesT (ks.getD j e0)) L
      have hqz := HNZ.out (ks.getD j e0)
      have hqs := HSL.out j hlt
      have hqL := HLL.out
      have hz2 : (putAll L (namesT (ks.getD j e0))).length ≤ m + sizeL (ks.take (j + 1)) := by omega
      obtain ⟨M, hM⟩ : ∃ M, putAll L (namesT (ks.getD j e0)) = M := ⟨_, rfl⟩
      rw [hM] at HCL hq hz2
      have HQ := hideN hq
      have HZ2 := hideN hz2
      clear hcs he hM hql hqz hqs hqL hz2 hq hszj
      go_wp2_with fail
      refine HCL.out.mono ?_
      rintro e w2 ⟨b2, off2, n2, cap2, rfl, hl2, hnc2, hcm2, hA2, hb2⟩
      have HB2 : Hid (Below W1.heap.size W1 w2) := belNext HBR.out hb2
      have HA2 := hideN hA2
      have HL2 := hideN hl2
      have hn2 : n2 ≤ m + sizeL (ks.take (j + 1)) := by rw [← hl2]; exact HZ2.out
      clear hb2 hA2 hl2 c0 c1 c2 c3 b3
      go_wp2_with fail
      go_roundw
      case rel => exact ⟨j + 1, b2, off2, n2, cap2, M, by omega, by go_num, rfl, hnc2, hcm2, hn2, HL2, HQ, HA2, HB2⟩
      case measure => simp [intOf]; omega
    · obtain rfl : j = kn := by omega
      have HLF : Hid (L = putAll ss (namesL ks)) := by show _ = _; rw [HLE.out, HNF.out]
      have HBF := hideN (belNext HB1.out HBR.out)
      go_wp2_with fail
      exact bodyPost_ret (v := .slice (some ⟨b', off', none⟩) n' cap') (by simp [results, Try.results15, go_sem]) rfl (by rw [← HLF.out]; exact ⟨b', off', n', cap', rfl, HLL.out, hnc', hcm', HAL.out, HBF.out⟩)

/-- Names of an expression that is ok; none of any other. -/
def namesOf (t : ExpT) : List Bs := if okE t = true then putAll [] (namesT t) else []

set_option maxRecDepth 100000 in
set_option maxHeartbeats 8000000 in
theorem specExpNames_any (lo : Nat) (t : ExpT) (ht : totE t ≤ 1048576) (v : Value) (w : World) (hE : IsE w lo t v) : Calls Try.prog 6 #[v] w (PutPost (namesOf t) w) := by
  have HEB := hideN (fun W (hV : Below w.heap.size w W) => IsE.below hE hV)
  have HOK := hideN (fun W (hV : Below w.heap.size w W) => specExpOk_any lo t ht v W (HEB.out W hV))
  have HNM := hideN (fun W (hV : Below w.heap.size w W) (B : Nat) (h : okE t = true) => l5Names_any lo t ht v B 0 0 0 [] W (HEB.out W hV) (AtT.nil _ _ _) rfl (Nat.le_refl _) (by decide) (by
    unfold okE at h; simp only [Bool.and_eq_true, decide_eq_true_eq] at h; omega))
  obtain ⟨k, n, s, ao, m, cap, rfl⟩ := hE.agg
  obtain ⟨W1, hW1⟩ : ∃ W1, W1 = w.alloc (.cells #[.int .i64 k, .int .i64 n, .string s, .slice ao m cap] 25) := ⟨_, rfl⟩
  have HB1 : Hid (Below w.heap.size w W1) := by rw [hW1]; exact belOne _ _
  have HK : Hid (BlkE W1 w.heap.size (.int .i64 k) (.int .i64 n) (.string s) (.slice ao m cap) 25) := by rw [hW1]; exact BlkE.new _ _ _ _ _ _
  have HW1 := hideN hW1
  have b0 := HK.out.c0
  have b1 := HK.out.c1
  have b2 := HK.out.c2
  have b3 := HK.out.c3
  have HR : Hid (namesOf t = if okE t = true then putAll [] (namesT t) else []) := rfl
  obtain ⟨R, hR⟩ : ∃ R, namesOf t = R := ⟨_, rfl⟩
  rw [hR] at HR ⊢
  obtain ⟨r, hr⟩ : ∃ r, okE t = r := ⟨_, rfl⟩
  rw [hr] at HR HOK HNM
  clear hE hW1 hr hR
  cases r with
  | false =>
    have HRR : Hid (R = []) := by show _ = _; rw [HR.out]; rfl
    go_enter Try.func6, Try.ntmps6
    go_wp2_with fail
    try rw [← HW1.out]
    refine (HOK.out W1 HB1.out).mono ?_
    rintro e w2 ⟨rfl, hb2⟩
    have HB2 := hideN (belNext HB1.out hb2)
    clear hb2 b0 b1 b2 b3
    go_wp2_with fail
    exact bodyPost_ret (v := .slice (some ⟨w2.heap.size, 0, none⟩) 0 0) (by simp [results, Try.results6, go_sem]) rfl ⟨w2.heap.size, 0, 0, 0, rfl, by rw [HRR.out]; rfl, Nat.le_refl _, by decide, by rw [HRR.out]; exact AtT.nil _ _ _, belNext HB2.out (belOne _ _)⟩
  | true =>
    have HRR : Hid (R = putAll [] (namesT t)) := by show _ = _; rw [HR.out]; rfl
    rw [← HRR.out] at HNM
    have HNM2 := hideN (fun W (hV : Below w.heap.size w W) (B : Nat) => HNM.out W hV B rfl)
    clear HNM
    go_enter Try.func6, Try.ntmps6
    go_wp2_with fail
    try rw [← HW1.out]
    refine (HOK.out W1 HB1.out).mono ?_
    rintro e w2 ⟨rfl, hb2⟩
    have HB2 := hideN (belNext HB1.out hb2)
    have HK2 := hideN (HK.out.below hb2)
    clear hb2 b0 b1 b2 b3
    have b0 := HK2.out.c0
    have b1 := HK2.out.c1
    have b2 := HK2.out.c2
    have b3 := HK2.out.c3
    obtain ⟨W3, hW3⟩ : ∃ W3, W3 = w2.alloc (.cells #[] 9) := ⟨_, rfl⟩
    have HB3 : Hid (Below w.heap.size w W3) := by rw [hW3]; exact belNext HB2.out (belOne _ _)
    have HW3 := hideN hW3
    clear hW3
    go_wp2_with fail
    try rw [← HW3.out]
    refine (HNM2.out W3 HB3.out _).mono ?_
    rintro e w4 ⟨b', off', n', cap', rfl, hl, hnc', hcm', hA', hb4⟩
    have HB4 := hideN (belNext HB3.out hb4)
    have HA' := hideN hA'
    have HLL := hideN hl
    clear hb4 hA' hl b0 b1 b2 b3
    go_wp2_with fail
    exact bodyPost_ret (v := .slice (some ⟨b', off', none⟩) n' cap') (by simp [results, Try.results6, go_sem]) rfl ⟨b', off', n', cap', rfl, HLL.out, hnc', hcm', HA'.out, HB4.out⟩

end Go.Proofs.Ytgjficnpkmemgaa
